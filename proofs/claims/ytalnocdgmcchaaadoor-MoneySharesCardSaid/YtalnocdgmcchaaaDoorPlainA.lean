/- Plain facts on quoted texts and lines: lists of bytes alone; nothing of the program. -/
namespace Go.Proofs.YtalnocdgmcchaaaDoor

/-- a byte that is written in hexadecimal digits, one that is written behind a backslash -/
def hxB (c : UInt8) : Bool := decide ((c.toNat : Int) < 32 ∨ 126 < (c.toNat : Int))
def bsB (c : UInt8) : Bool := decide (c.toNat = 34 ∨ c.toNat = 92)
def hexD : List UInt8 := [48, 49, 50, 51, 52, 53, 54, 55, 56, 57, 97, 98, 99, 100, 101, 102]
def hexd (n : Nat) : UInt8 := hexD.getD n 0
/-- how one byte is quoted -/
def qb (c : UInt8) : List UInt8 := if hxB c then [92, 120, hexd (c.toNat / 16), hexd (c.toNat % 16)] else if bsB c then [92, c] else [c]
def quoteL (l : List UInt8) : List UInt8 := 34 :: (l.flatMap qb ++ [34])
theorem qb_le (c : UInt8) : (qb c).length ≤ 4 := by
  unfold qb
  split
  · simp
  · split <;> simp
theorem qb_pos (c : UInt8) : 0 < (qb c).length := by
  unfold qb
  split
  · simp
  · split <;> simp
theorem flatMap_qb_le : ∀ l : List UInt8, (l.flatMap qb).length ≤ 4 * l.length
  | [] => by simp
  | c :: r => by have := qb_le c; have := flatMap_qb_le r; simp only [List.flatMap_cons, List.length_append, List.length_cons]; omega
theorem flatMap_qb_ge : ∀ l : List UInt8, l.length ≤ (l.flatMap qb).length
  | [] => by simp
  | c :: r => by have := qb_pos c; have := flatMap_qb_ge r; simp only [List.flatMap_cons, List.length_append, List.length_cons]; omega

/-- the value of a hexadecimal digit, or -1 -/
def hexV (c : UInt8) : Int := if 48 ≤ c.toNat ∧ c.toNat ≤ 57 then (c.toNat : Int) - 48 else if 97 ≤ c.toNat ∧ c.toNat ≤ 102 then (c.toNat : Int) - 87 else -1
theorem hexV_hexd : ∀ n : Fin 16, hexV (hexd n.val) = n.val := by decide +kernel
theorem hexV_lt (c : UInt8) : hexV c < 16 := by unfold hexV; split; · omega
                                                split <;> omega
theorem hexV_ge (c : UInt8) : -1 ≤ hexV c := by unfold hexV; split; · omega
                                                split <;> omega
theorem hexd_hexV_all : ∀ n : Fin 256, 0 ≤ hexV (UInt8.ofNat n.val) → hexd (hexV (UInt8.ofNat n.val)).toNat = UInt8.ofNat n.val := by decide +kernel
theorem hexd_hexV (c : UInt8) (h : 0 ≤ hexV c) : hexd (hexV c).toNat = c := by
  have e : UInt8.ofNat c.toNat = c := by simp
  have := hexd_hexV_all ⟨c.toNat, c.toNat_lt⟩
  simp only [e] at this
  exact this h
/-- the byte that two hexadecimal digits say, and its width: 0 if Quote doesn't write it so -/
def hexB (a b : UInt8) : UInt8 := UInt8.ofNat (16 * hexV a + hexV b).toNat
def hb2 (a b : UInt8) : UInt8 × Nat := if hexV a < 0 ∨ hexV b < 0 then (0, 0) else if hxB (hexB a b) then (hexB a b, 4) else (0, 0)
theorem hexB_toNat (a b : UInt8) (ha : 0 ≤ hexV a) (hb : 0 ≤ hexV b) : (hexB a b).toNat = (16 * hexV a + hexV b).toNat := by
  have := hexV_lt a
  have := hexV_lt b
  rw [hexB, UInt8.toNat_ofNat']
  omega
theorem hexB_hexd (c : UInt8) : hexB (hexd (c.toNat / 16)) (hexd (c.toNat % 16)) = c := by
  have h := c.toNat_lt
  have h1 := hexV_hexd ⟨c.toNat / 16, by omega⟩
  have h2 := hexV_hexd ⟨c.toNat % 16, by omega⟩
  apply UInt8.toNat_inj.1
  simp only at h1 h2
  rw [hexB_toNat _ _ (by omega) (by omega), h1, h2]
  omega
/-- the byte at the head of a quoted text's inside, and how many bytes are written for it -/
def dq : List UInt8 → UInt8 × Nat
  | [] => (0, 0)
  | [c] => if c.toNat = 92 ∨ hxB c = true ∨ bsB c = true then (0, 0) else (c, 1)
  | c :: d :: r => if c.toNat = 92 then (if bsB d then (d, 2) else if d.toNat = 120 then (match r with | a :: b :: _ => hb2 a b | _ => (0, 0)) else (0, 0))
      else if hxB c = true ∨ bsB c = true then (0, 0) else (c, 1)
theorem bsB_92 (c : UInt8) (h : bsB c = false) : c.toNat ≠ 92 := by simp [bsB] at h; omega
theorem dq_qb (c : UInt8) (r : List UInt8) : dq (qb c ++ r) = (c, (qb c).length) := by
  unfold qb
  cases hx : hxB c
  · cases hb : bsB c
    · have h := bsB_92 c hb
      cases r <;> simp [dq, hx, hb, h]
    · simp [dq, hb]
  · have h := c.toNat_lt
    have h1 := hexV_hexd ⟨c.toNat / 16, by omega⟩
    have h2 := hexV_hexd ⟨c.toNat % 16, by omega⟩
    simp only at h1 h2
    simp only [if_true, List.cons_append, List.nil_append]
    have e1 : bsB 120 = false := by decide
    simp only [dq, e1, hb2, hexB_hexd, hx, h1, h2]
    rw [if_pos (by decide), if_neg (by simp), if_pos (by decide), if_neg (by omega)]
    simp
theorem qb_of_hb2 (a b : UInt8) (h : (hb2 a b).2 ≠ 0) : qb (hb2 a b).1 = [92, 120, a, b] ∧ (hb2 a b).2 = 4 := by
  unfold hb2 at h ⊢
  by_cases h1 : hexV a < 0 ∨ hexV b < 0
  · rw [if_pos h1] at h; exact absurd rfl h
  rw [if_neg h1] at h ⊢
  cases hx : hxB (hexB a b)
  · rw [hx] at h; exact absurd rfl h
  · rw [if_pos rfl]
    refine ⟨?_, rfl⟩
    have ha : 0 ≤ hexV a := by omega
    have hb : 0 ≤ hexV b := by omega
    have l1 := hexV_lt a
    have l2 := hexV_lt b
    have e := hexB_toNat a b ha hb
    have e1 : (hexB a b).toNat / 16 = (hexV a).toNat := by omega
    have e2 : (hexB a b).toNat % 16 = (hexV b).toNat := by omega
    simp only [qb, hx, if_true, e1, e2, hexd_hexV a ha, hexd_hexV b hb]
theorem dq_some (l : List UInt8) (h : (dq l).2 ≠ 0) : l = qb (dq l).1 ++ l.drop (dq l).2 ∧ (dq l).2 = (qb (dq l).1).length := by
  match l with
  | [] => exact absurd rfl h
  | [c] =>
    simp only [dq] at h ⊢
    by_cases h1 : c.toNat = 92 ∨ hxB c = true ∨ bsB c = true
    · rw [if_pos h1] at h; exact absurd rfl h
    · rw [if_neg h1]
      have hx : hxB c = false := by cases hx : hxB c; · rfl
                                    exact absurd (.inr (.inl hx)) h1
      have hb : bsB c = false := by cases hb : bsB c; · rfl
                                    exact absurd (.inr (.inr hb)) h1
      simp [qb, hx, hb]
  | c :: d :: r =>
    unfold dq at h ⊢
    by_cases hc : c.toNat = 92
    · have ec : c = 92 := UInt8.toNat_inj.1 hc
      simp only [hc, if_true] at h ⊢
      cases hb : bsB d
      · simp only [hb, Bool.false_eq_true, if_false] at h ⊢
        by_cases hd : d.toNat = 120
        · have ed : d = 120 := UInt8.toNat_inj.1 hd
          simp only [hd, if_true] at h ⊢
          match r with
          | [] => exact absurd rfl h
          | [a] => exact absurd rfl h
          | a :: b :: r' =>
            simp only at h ⊢
            obtain ⟨h1, h2⟩ := qb_of_hb2 a b h
            rw [h1, h2, ec, ed]
            exact ⟨rfl, rfl⟩
        · rw [if_neg hd] at h; exact absurd rfl h
      · simp only [if_true] at h ⊢
        have hx : hxB d = false := by simp [bsB] at hb; simp [hxB]; omega
        simp [qb, hx, hb, ec]
    · simp only [hc, if_false] at h ⊢
      by_cases h1 : hxB c = true ∨ bsB c = true
      · rw [if_pos h1] at h; exact absurd rfl h
      · rw [if_neg h1]
        have hx : hxB c = false := by cases hx : hxB c; · rfl
                                      exact absurd (.inl hx) h1
        have hb : bsB c = false := by cases hb : bsB c; · rfl
                                      exact absurd (.inr hb) h1
        simp [qb, hx, hb]
/-- what is quoted is read in one way alone -/
theorem qb_split : ∀ (l t R : List UInt8), t.flatMap qb = l.flatMap qb ++ R → ∃ t', t = l ++ t' ∧ R = t'.flatMap qb
  | [], t, R, h => ⟨t, rfl, by simpa using h.symm⟩
  | c :: l, [], R, h => by
    have := congrArg List.length h
    have := qb_pos c
    simp at *
    omega
  | c :: l, d :: t, R, h => by
    simp only [List.flatMap_cons, List.append_assoc] at h
    have e := congrArg dq h
    rw [dq_qb, dq_qb] at e
    have ec : d = c := (Prod.mk.inj e).1
    subst ec
    obtain ⟨t', h1, h2⟩ := qb_split l t R (List.append_cancel_left h)
    exact ⟨t', by rw [h1]; rfl, h2⟩
theorem flatMap_qb_inj (l t : List UInt8) (h : t.flatMap qb = l.flatMap qb) : t = l := by
  obtain ⟨t', h1, h2⟩ := qb_split l t [] (by simpa using h)
  have : t' = [] := by
    cases t' with
    | nil => rfl
    | cons c r =>
      have := congrArg List.length h2
      have := qb_pos c
      simp at *
      omega
  rw [h1, this, List.append_nil]
theorem quoteL_inj (l t : List UInt8) (h : quoteL t = quoteL l) : t = l := by
  unfold quoteL at h
  have h1 := (List.cons.inj h).2
  exact flatMap_qb_inj l t (List.append_cancel_right h1)
theorem dq_bad (c : UInt8) (r : List UInt8) (hc : c.toNat ≠ 92) (h : hxB c = true ∨ bsB c = true) : dq (c :: r) = (0, 0) := by
  cases r with
  | nil => simp only [dq]; rw [if_pos (.inr h)]
  | cons d r => simp only [dq]; rw [if_neg hc, if_pos h]
theorem dq_one (c : UInt8) (r : List UInt8) (hc : c.toNat ≠ 92) (hx : hxB c = false) (hb : bsB c = false) : dq (c :: r) = (c, 1) := by
  cases r <;> simp [dq, hc, hx, hb]
theorem dq_end (c : UInt8) (hc : c.toNat = 92) : dq [c] = (0, 0) := by simp only [dq]; rw [if_pos (.inl hc)]
theorem dq_two (c d : UInt8) (r : List UInt8) (hc : c.toNat = 92) (hb : bsB d = true) : dq (c :: d :: r) = (d, 2) := by simp only [dq]; rw [if_pos hc, if_pos hb]
theorem dq_esc (c d : UInt8) (r : List UInt8) (hc : c.toNat = 92) (hb : bsB d = false) (hd : d.toNat ≠ 120) : dq (c :: d :: r) = (0, 0) := by
  simp only [dq]; rw [if_pos hc, if_neg (by simp [hb]), if_neg hd]
theorem dq_short (c d : UInt8) (r : List UInt8) (hc : c.toNat = 92) (hd : d.toNat = 120) (hr : r.length < 2) : dq (c :: d :: r) = (0, 0) := by
  have hb : bsB d = false := by simp [bsB, hd]
  simp only [dq]; rw [if_pos hc, if_neg (by simp [hb]), if_pos hd]
  match r, hr with
  | [], _ => rfl
  | [_], _ => rfl
  | _ :: _ :: _, hr => simp at hr; omega
theorem dq_hex (c d a b : UInt8) (r : List UInt8) (hc : c.toNat = 92) (hd : d.toNat = 120) : dq (c :: d :: a :: b :: r) = hb2 a b := by
  have hb : bsB d = false := by simp [bsB, hd]
  simp only [dq]; rw [if_pos hc, if_neg (by simp [hb]), if_pos hd]
/-- the first bytes of a text, taken out -/
theorem bytes_cons1 (s : ByteArray) (h : 0 < s.size) : s.data.toList = s[0] :: s.data.toList.drop 1 := by
  conv => lhs; rw [← List.drop_zero (l := s.data.toList), List.drop_eq_getElem_cons (by simpa using h)]
  rfl
theorem bytes_drop (s : ByteArray) (k : Nat) (h : k < s.size) : s.data.toList.drop k = s[k] :: s.data.toList.drop (k + 1) := by
  rw [List.drop_eq_getElem_cons (by simpa using h)]; rfl
theorem bytes_len (s : ByteArray) (k : Nat) : (s.data.toList.drop k).length = s.size - k := by simp
/-- what a quoted text looks like from outside -/
theorem quoted_ends {s : ByteArray} {t : List UInt8} (h : s.data.toList = quoteL t) : ∃ h2 : 2 ≤ s.size, (s[0]'(by omega)).toNat = 34 ∧ (s[s.size - 1]'(by omega)).toNat = 34 := by
  have hl : s.size = (quoteL t).length := by rw [← h]; simp
  have h2 : 2 ≤ s.size := by rw [hl]; simp [quoteL]
  refine ⟨h2, ?_, ?_⟩
  · have e : s.data.toList[0]? = some 34 := by rw [h]; rfl
    have e' : s.data.toList[0]? = some (s[0]'(by omega)) := by rw [List.getElem?_eq_getElem (by simp; omega)]; rfl
    rw [e'] at e
    rw [Option.some.inj e]
    rfl
  · have e : s.data.toList[s.size - 1]? = some 34 := by
      rw [h, hl]
      simp only [quoteL]
      rw [List.getElem?_eq_getElem (by simp)]
      simp
    have e' : s.data.toList[s.size - 1]? = some (s[s.size - 1]'(by omega)) := by rw [List.getElem?_eq_getElem (by simp; omega)]; rfl
    rw [e'] at e
    rw [Option.some.inj e]
    rfl
theorem extract_list (s : ByteArray) (a b : Nat) : (s.extract a b).data.toList = (s.data.toList.take b).drop a := by
  rw [ByteArray.data_extract, Array.toList_extract, List.extract_eq_take_drop, List.drop_take]
theorem inside_list (s : ByteArray) (h2 : 2 ≤ s.size) (h0 : (s[0]'(by omega)).toNat = 34) (h1 : (s[s.size - 1]'(by omega)).toNat = 34) :
    s.data.toList = 34 :: ((s.extract 1 (s.size - 1)).data.toList ++ [34]) := by
  have e0 : s[0]'(by omega) = 34 := UInt8.toNat_inj.1 h0
  have e1 : s[s.size - 1]'(by omega) = 34 := UInt8.toNat_inj.1 h1
  have hl : s.data.toList.length = s.size := by simp
  have a : s.data.toList = s.data.toList.take (s.size - 1) ++ [34] := by
    conv => lhs; rw [← List.take_length (l := s.data.toList), hl, show s.size = s.size - 1 + 1 from by omega]
    rw [List.take_succ_eq_append_getElem (by omega)]
    congr 2
  have b : s.data.toList.take (s.size - 1) = 34 :: (s.data.toList.take (s.size - 1)).drop 1 := by
    conv => lhs; rw [← List.drop_zero (l := s.data.toList.take (s.size - 1)), List.drop_eq_getElem_cons (by simp; omega)]
    congr 1
    rw [List.getElem_take]
    exact e0
  rw [extract_list]
  conv => lhs; rw [a, b]
  rfl
theorem unq_none {s : List UInt8} {l r : List UInt8} (h : s = 34 :: (l.flatMap qb ++ (r ++ [34]))) (hr : r ≠ []) (hd : (dq r).2 = 0) : ∀ t, s ≠ quoteL t := by
  intro t ht
  rw [ht] at h
  unfold quoteL at h
  have h1 := (List.cons.inj h).2
  rw [← List.append_assoc] at h1
  obtain ⟨t', _, h2⟩ := qb_split l t r (List.append_cancel_right h1)
  cases t' with
  | nil => exact hr (by simpa using h2)
  | cons c t'' =>
    rw [h2, List.flatMap_cons, dq_qb] at hd
    have := qb_pos c
    simp only at hd
    omega
theorem unq_step {s : List UInt8} {l r : List UInt8} {c : UInt8} {n : Nat} (h : s = 34 :: (l.flatMap qb ++ (r ++ [34]))) (hd : dq r = (c, n)) (hn : n ≠ 0) :
    s = 34 :: ((l ++ [c]).flatMap qb ++ (r.drop n ++ [34])) ∧ n ≤ r.length := by
  have h2 := dq_some r (by rw [hd]; exact hn)
  rw [hd] at h2
  simp only at h2
  constructor
  · rw [h]
    conv => lhs; rw [h2.1]
    simp
  · have := congrArg List.length h2.1
    rw [List.length_append, ← h2.2] at this
    omega

/-! ### lines -/
def okB (c : UInt8) : Bool := decide (33 ≤ c.toNat ∧ c.toNat ≤ 126 ∧ c.toNat ≠ 34)
def plainL (l : List UInt8) : Bool := !l.isEmpty && l.all okB
/-- how a word is written -/
def encW (l : List UInt8) : List UInt8 := if plainL l then l else quoteL l
def joinL : List (List UInt8) → List UInt8
  | [] => []
  | w :: r => encW w ++ r.flatMap fun x => 32 :: encW x
theorem joinL_one (w : List UInt8) : joinL [w] = encW w := by simp [joinL]
theorem joinL_snoc (l : List (List UInt8)) (w : List UInt8) (h : l ≠ []) : joinL (l ++ [w]) = joinL l ++ 32 :: encW w := by
  cases l with
  | nil => exact absurd rfl h
  | cons x r => simp [joinL]
theorem encW_le (w : List UInt8) : (encW w).length ≤ 4 * w.length + 2 := by
  unfold encW
  split
  · omega
  · have := flatMap_qb_le w
    simp only [quoteL, List.length_cons, List.length_append, List.length_nil]
    omega
theorem joinL_le (l : List (List UInt8)) : (joinL l).length ≤ 4 * (l.map List.length).sum + 3 * l.length := by
  have h : ∀ r : List (List UInt8), (r.flatMap fun x => 32 :: encW x).length ≤ 4 * (r.map List.length).sum + 3 * r.length := by
    intro r
    induction r with
    | nil => simp
    | cons x r ih =>
      have := encW_le x
      simp only [List.flatMap_cons, List.length_append, List.length_cons, List.map_cons, List.sum_cons]
      omega
  cases l with
  | nil => simp [joinL]
  | cons x r =>
    have := encW_le x
    have := h r
    simp only [joinL, List.length_append, List.map_cons, List.sum_cons, List.length_cons]
    omega
theorem sum_take_le : ∀ (l : List (List UInt8)) (k : Nat), ((l.take k).map List.length).sum ≤ (l.map List.length).sum
  | [], k => by simp
  | x :: r, 0 => by simp
  | x :: r, k + 1 => by have := sum_take_le r k; simp only [List.take_succ_cons, List.map_cons, List.sum_cons]; omega
theorem len_le_sum : ∀ (l : List (List UInt8)) (x : List UInt8), x ∈ l → x.length ≤ (l.map List.length).sum
  | y :: r, x, h => by
    rcases List.mem_cons.1 h with rfl | h
    · simp
    · have := len_le_sum r x h
      simp only [List.map_cons, List.sum_cons]; omega

/-- each word with a space behind it -/
def enc32 (w : List UInt8) : List UInt8 := encW w ++ [32]
theorem flat_eq : ∀ l : List (List UInt8), l ≠ [] → l.flatMap enc32 = joinL l ++ [32]
  | [], h => absurd rfl h
  | [w], _ => by simp [enc32, joinL]
  | w :: x :: r, _ => by
    have := flat_eq (x :: r) (by simp)
    rw [List.flatMap_cons, this]
    simp [enc32, joinL]
theorem plain_ne (w : List UInt8) (h : plainL w = true) : w ≠ [] := by
  intro e; rw [e] at h; simp [plainL] at h
theorem encW_ne (w : List UInt8) : encW w ≠ [] := by
  unfold encW
  split
  · rename_i h; exact plain_ne w h
  · simp [quoteL]
theorem joinL_ne (l : List (List UInt8)) (h : l ≠ []) : joinL l ≠ [] := by
  cases l with
  | nil => exact absurd rfl h
  | cons x r => simp [joinL, encW_ne]
theorem quote_not_plain (t : List UInt8) : plainL (quoteL t) = false := by
  simp [plainL, quoteL, okB]
theorem encW_inj (a b : List UInt8) (h : encW a = encW b) : a = b := by
  unfold encW at h
  cases ha : plainL a <;> cases hb : plainL b <;> simp only [ha, hb, Bool.false_eq_true, if_true, if_false] at h
  · exact quoteL_inj b a h
  · rw [← h, quote_not_plain] at hb; cases hb
  · rw [h, quote_not_plain] at ha; cases ha
  · exact h

/-! ### the machine that splits a line -/
def scanQ (q e : Bool) (c : UInt8) : Bool := if e then q else if c.toNat = 34 then !q else q
def scanE (q e : Bool) (c : UInt8) : Bool := if e then false else if c.toNat = 92 then q else false
/-- no split inside; ends outside of a quoted text -/
def clean : Bool → Bool → List UInt8 → Bool
  | q, e, [] => !q && !e
  | q, e, c :: r => (e || q || decide (c.toNat ≠ 32)) && clean (scanQ q e c) (scanE q e c) r
theorem clean_plain : ∀ r : List UInt8, r.all okB = true → clean false false r = true
  | [], _ => rfl
  | c :: r, h => by
    simp only [List.all_cons, Bool.and_eq_true] at h
    have hc : okB c = true := h.1
    simp [okB] at hc
    have h34 : ¬ c.toNat = 34 := hc.2.2
    have h32 : c.toNat ≠ 32 := by omega
    simp only [clean, scanQ, scanE, Bool.false_eq_true, if_false, h34, ite_self, clean_plain r h.2]
    simpa using h32
theorem hexd_plain : ∀ n : Fin 16, (hexd n.val).toNat ≠ 34 ∧ (hexd n.val).toNat ≠ 92 ∧ (hexd n.val).toNat < 128 := by decide +kernel
theorem clean_qb (c : UInt8) (r : List UInt8) (h : clean true false r = true) : clean true false (qb c ++ r) = true := by
  unfold qb
  cases hx : hxB c
  · cases hb : bsB c
    · simp [bsB] at hb
      simp [clean, scanQ, scanE, hb, h]
    · simp [clean, scanQ, scanE, h]
  · have h1 := hexd_plain ⟨c.toNat / 16, by have := c.toNat_lt; omega⟩
    have h2 := hexd_plain ⟨c.toNat % 16, by omega⟩
    simp only at h1 h2
    simp [clean, scanQ, scanE, h, h1, h2]
theorem clean_flat : ∀ t : List UInt8, clean true false (t.flatMap qb ++ [34]) = true
  | [] => by decide
  | c :: t => by rw [List.flatMap_cons, List.append_assoc]; exact clean_qb c _ (clean_flat t)
theorem clean_encW (w : List UInt8) : clean false false (encW w) = true := by
  cases h : plainL w
  · have e : encW w = quoteL w := by simp [encW, h]
    have e2 := clean_flat w
    rw [e, quoteL]
    simp [clean, scanQ, scanE, e2]
  · have e : encW w = w := by simp [encW, h]
    rw [e]
    simp [plainL] at h
    exact clean_plain w (by simpa using h.2)
def ascii (l : List UInt8) : Bool := l.all fun c => decide (c.toNat < 128)
theorem ascii_qb (c : UInt8) : ascii (qb c) = true := by
  unfold qb
  cases hx : hxB c
  · simp [hxB] at hx
    cases hb : bsB c
    · simp [ascii]; omega
    · simp [ascii]; omega
  · have h1 := hexd_plain ⟨c.toNat / 16, by have := c.toNat_lt; omega⟩
    have h2 := hexd_plain ⟨c.toNat % 16, by omega⟩
    simp only at h1 h2
    simp [ascii, h1, h2]
theorem ascii_append (a b : List UInt8) : ascii (a ++ b) = (ascii a && ascii b) := by simp [ascii]
theorem ascii_flat : ∀ t : List UInt8, ascii (t.flatMap qb) = true
  | [] => rfl
  | c :: t => by rw [List.flatMap_cons, ascii_append, ascii_qb, ascii_flat t]; rfl
theorem ascii_encW (w : List UInt8) : ascii (encW w) = true := by
  cases h : plainL w
  · have e : encW w = quoteL w := by simp [encW, h]
    have e2 := ascii_flat w
    rw [e, quoteL]
    show ascii (34 :: (w.flatMap qb ++ [34])) = true
    rw [show (34 : UInt8) :: (w.flatMap qb ++ [34]) = [34] ++ (w.flatMap qb ++ [34]) from rfl, ascii_append, ascii_append, e2]
    decide
  · have e : encW w = w := by simp [encW, h]
    rw [e]
    simp [plainL] at h
    simp only [ascii, List.all_eq_true, decide_eq_true_eq]
    intro c hc
    have := h.2 c hc
    simp [okB] at this
    omega

/-- where the machine stands in the line of the words l, each with a space behind it -/
def At (l : List (List UInt8)) (S : List UInt8) (m pos start : Nat) (q e : Bool) : Prop :=
  (∃ w r pre xs, l.drop m = w :: r ∧ pre ++ xs = encW w ∧ clean q e xs = true ∧ start + pre.length = pos ∧ S.drop start = encW w ++ 32 :: r.flatMap enc32) ∨
  (l.drop m = [] ∧ S.length = pos ∧ start = pos ∧ q = false ∧ e = false)
theorem at_zero (l : List (List UInt8)) : At l (l.flatMap enc32) 0 0 0 false false := by
  cases l with
  | nil => exact .inr ⟨rfl, rfl, rfl, rfl, rfl⟩
  | cons w r => exact .inl ⟨w, r, [], encW w, rfl, rfl, clean_encW w, rfl, by simp [enc32]⟩
theorem at_le {l : List (List UInt8)} {S : List UInt8} {m pos start : Nat} {q e : Bool} (h : At l S m pos start q e) : start ≤ pos := by
  rcases h with ⟨w, r, pre, xs, _, _, _, h, _⟩ | ⟨_, _, h, _⟩ <;> omega
theorem at_step {l : List (List UInt8)} {S : List UInt8} {m pos start : Nat} {q e : Bool} (h : At l S m pos start q e) (hp : pos < S.length) :
    (S[pos]).toNat < 128 ∧
    (((S[pos]).toNat = 32 ∧ q = false ∧ e = false ∧ ∃ w, l.take (m + 1) = l.take m ++ [w] ∧ (S.take pos).drop start = encW w ∧ At l S (m + 1) (pos + 1) (pos + 1) false false) ∨
     ((e || q || decide ((S[pos]).toNat ≠ 32)) = true ∧ At l S m (pos + 1) start (scanQ q e S[pos]) (scanE q e S[pos]))) := by
  rcases h with ⟨w, r, pre, xs, hl, he, hc, hs, hd⟩ | ⟨_, h, _⟩
  · have hdp : S.drop pos = xs ++ 32 :: r.flatMap enc32 := by
      have : S.drop pos = (S.drop start).drop pre.length := by rw [List.drop_drop, hs]
      rw [this, hd, ← he, List.append_assoc, List.drop_left]
    have hg : S[pos] :: S.drop (pos + 1) = xs ++ 32 :: r.flatMap enc32 := by rw [← hdp, List.drop_eq_getElem_cons hp]
    cases xs with
    | nil =>
      have h1 := (List.cons.inj hg)
      have hq : q = false ∧ e = false := by simp [clean] at hc; exact ⟨hc.1, hc.2⟩
      rw [List.append_nil] at he
      refine ⟨by rw [h1.1]; decide, .inl ⟨by rw [h1.1]; rfl, hq.1, hq.2, w, ?_, ?_, ?_⟩⟩
      · have hm : m < l.length := by
          rcases Nat.lt_or_ge m l.length with h | h
          · exact h
          · rw [List.drop_eq_nil_of_le h] at hl; cases hl
        rw [List.take_succ_eq_append_getElem hm]
        rw [List.drop_eq_getElem_cons hm] at hl
        rw [(List.cons.inj hl).1]
      · have : (S.take pos).drop start = (S.drop start).take pre.length := by
          rw [List.drop_take]
          congr 1
          omega
        rw [this, hd, ← he, List.take_left]
      · have hr : l.drop (m + 1) = r := by
          rw [← List.drop_drop, hl]; rfl
        cases r with
        | nil =>
          refine .inr ⟨hr, ?_, rfl, rfl, rfl⟩
          have := congrArg List.length h1.2
          simp at this
          omega
        | cons w' r' => exact .inl ⟨w', r', [], encW w', hr, rfl, clean_encW w', rfl, by rw [h1.2]; simp [enc32]⟩
    | cons c xs' =>
      have h1 := (List.cons.inj hg)
      have ha : ascii (pre ++ c :: xs') = true := by rw [he]; exact ascii_encW w
      have hca : c.toNat < 128 := by
        simp only [ascii, List.all_eq_true, decide_eq_true_eq] at ha
        exact ha c (by simp)
      rw [h1.1]
      simp only [clean, Bool.and_eq_true] at hc
      exact ⟨hca, .inr ⟨hc.1, .inl ⟨w, r, pre ++ [c], xs', hl, by simpa using he, hc.2, by simp; omega, hd⟩⟩⟩
  · omega
theorem at_end {l : List (List UInt8)} {S : List UInt8} {m pos start : Nat} {q e : Bool} (h : At l S m pos start q e) (hp : S.length ≤ pos) : l.take m = l ∧ S.length ≤ start := by
  rcases h with ⟨w, r, pre, xs, hl, he, hc, hs, hd⟩ | ⟨hl, h1, h2, _⟩
  · have h1 := congrArg List.length hd
    have h2 := congrArg List.length he
    simp only [List.length_drop, List.length_append, List.length_cons] at h1 h2
    omega
  · refine ⟨List.take_of_length_le ?_, by omega⟩
    exact List.drop_eq_nil_iff.1 hl

/-! ### the inside of a quoted text, as the reference skips it -/
def esc : List UInt8 → Bool
  | [] => true
  | [c] => decide (c.toNat ≠ 92 ∧ c.toNat ≠ 34)
  | c :: d :: r => if c.toNat = 92 then esc r else decide (c.toNat ≠ 34) && esc (d :: r)
theorem esc_cons (c : UInt8) (r : List UInt8) (h1 : c.toNat ≠ 92) (h2 : c.toNat ≠ 34) : esc (c :: r) = esc r := by
  cases r with
  | nil => simp [esc, h1, h2]
  | cons d r => simp [esc, h1, h2]
theorem esc_skip (c d : UInt8) (r : List UInt8) (h1 : c.toNat = 92) : esc (c :: d :: r) = esc r := by simp [esc, h1]
theorem esc_flat : ∀ t : List UInt8, esc (t.flatMap qb) = true
  | [] => rfl
  | c :: t => by
    rw [List.flatMap_cons]
    unfold qb
    cases hx : hxB c
    · cases hb : bsB c
      · simp [bsB] at hb
        simp only [Bool.false_eq_true, if_false, List.cons_append, List.nil_append]
        rw [esc_cons _ _ hb.2 hb.1]
        exact esc_flat t
      · simp only [Bool.false_eq_true, if_false, if_true, List.cons_append, List.nil_append]
        rw [esc_skip _ _ _ (by decide)]
        exact esc_flat t
    · have h1 := hexd_plain ⟨c.toNat / 16, by have := c.toNat_lt; omega⟩
      have h2 := hexd_plain ⟨c.toNat % 16, by omega⟩
      simp only at h1 h2
      simp only [if_true, List.cons_append, List.nil_append]
      rw [esc_skip _ _ _ (by decide), esc_cons _ _ h1.2.1 h1.1, esc_cons _ _ h2.2.1 h2.1]
      exact esc_flat t
/-- what is ahead of the closing mark -/
theorem esc_step (xs rest S : List UInt8) (h : esc xs = true) (hS : S = xs ++ 34 :: rest) :
    (xs = [] ∧ S = 34 :: rest) ∨ (∃ c d xs', c.toNat = 92 ∧ S = c :: d :: (xs' ++ 34 :: rest) ∧ esc xs' = true) ∨ (∃ c xs', c.toNat ≠ 92 ∧ c.toNat ≠ 34 ∧ S = c :: (xs' ++ 34 :: rest) ∧ esc xs' = true) := by
  match xs, h with
  | [], _ => exact .inl ⟨rfl, hS⟩
  | [c], h =>
    simp [esc] at h
    exact .inr (.inr ⟨c, [], h.1, h.2, hS, rfl⟩)
  | c :: d :: r, h =>
    by_cases hc : c.toNat = 92
    · rw [esc_skip _ _ _ hc] at h
      exact .inr (.inl ⟨c, d, r, hc, hS, h⟩)
    · have h34 : c.toNat ≠ 34 := by
        intro e; simp [esc, e] at h
      rw [esc_cons _ _ hc h34] at h
      exact .inr (.inr ⟨c, d :: r, hc, h34, hS, h⟩)
theorem quoteL_ge (t : List UInt8) : t.length + 2 ≤ (quoteL t).length := by
  have := flatMap_qb_ge t
  simp only [quoteL, List.length_cons, List.length_append, List.length_nil]; omega
end Go.Proofs.YtalnocdgmcchaaaDoor
