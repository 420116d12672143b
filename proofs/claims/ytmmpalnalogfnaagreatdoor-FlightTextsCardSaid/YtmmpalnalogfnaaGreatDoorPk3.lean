/- Words and walks that the laws below ask: PlainA, TextB, TextC, Build, TextD, TextE, TextF, PerP. -/
import Derived.Deep.AppendLies
import Derived.Lib.UnsafeStr
import Derived.Lib.BufferWrite
import Derived.BigQuiet
import Derived.Deep.QuietTactic
import Derived.Deep.RegionLaw
import Derived.Lib.Bytealg
import Derived.Test.YtmmpalnalogfnaaGreatDoorChecked
import Derived.Lib.Strings
import Derived.Lib.Slices
import Derived.Lib.Walk
import Derived.Lib.Builder
import Derived.Lib.AppendStr
import Derived.Laws.Externs
import Derived.Shelf.GgClosure.StringsIndexFunc
import Derived.Lib.OthersKept
import Derived.WalkSmall
import Derived.Lib.LaidTab
import Derived.Lib.AtoiErrMem
import Derived.Lib.AppendIntMem
import Derived.Test.YtmmpalnalogfnaaGreatDoorPk1
import Derived.Test.YtmmpalnalogfnaaGreatDoorPk2
/- Plain facts on quoted texts and lines: lists of bytes alone; nothing of the program. -/
namespace Go.Proofs.YtmmpalnalogfnaaGreatDoor

/-- a byte that is written in hexadecimal digits, one that is written behind a backslash -/
def hxB (c : UInt8) : Bool := decide ((c.toNat : Int) < 32 ∨ 126 < (c.toNat : Int))
def bsB (c : UInt8) : Bool := decide (c.toNat = 34 ∨ c.toNat = 92)
def hexD : List UInt8 := [48, 49, 50, 51, 52, 53, 54, 55, 56, 57, 97, 98, 99, 100, 101, 102]
def hexd (n : Nat) : UInt8 := hexD.getD n 0
/-- how one byte is quoted -/
def qb (c : UInt8) : List UInt8 := if hxB c then [92, 120, hexd (c.toNat / 16), hexd (c.toNat % 16)] else if bsB c then [92, c] else [c]
def quoteL (l : List UInt8) : List UInt8 := 34 :: (l.flatMap qb ++ [34])
theorem qb_le (c : UInt8) : (qb c).length ≤ 4 := by
  unfold qb
  split
  · simp
  · split <;> simp
theorem qb_pos (c : UInt8) : 0 < (qb c).length := by
  unfold qb
  split
  · simp
  · split <;> simp
theorem flatMap_qb_le : ∀ l : List UInt8, (l.flatMap qb).length ≤ 4 * l.length
  | [] => by simp
  | c :: r => by have := qb_le c; have := flatMap_qb_le r; simp only [List.flatMap_cons, List.length_append, List.length_cons]; omega
theorem flatMap_qb_ge : ∀ l : List UInt8, l.length ≤ (l.flatMap qb).length
  | [] => by simp
  | c :: r => by have := qb_pos c; have := flatMap_qb_ge r; simp only [List.flatMap_cons, List.length_append, List.length_cons]; omega

/-- the value of a hexadecimal digit, or -1 -/
def hexV (c : UInt8) : Int := if 48 ≤ c.toNat ∧ c.toNat ≤ 57 then (c.toNat : Int) - 48 else if 97 ≤ c.toNat ∧ c.toNat ≤ 102 then (c.toNat : Int) - 87 else -1
theorem hexV_hexd : ∀ n : Fin 16, hexV (hexd n.val) = n.val := by decide +kernel
theorem hexV_lt (c : UInt8) : hexV c < 16 := by unfold hexV; split; · omega
                                                split <;> omega
theorem hexV_ge (c : UInt8) : -1 ≤ hexV c := by unfold hexV; split; · omega
                                                split <;> omega
theorem hexd_hexV_all : ∀ n : Fin 256, 0 ≤ hexV (UInt8.ofNat n.val) → hexd (hexV (UInt8.ofNat n.val)).toNat = UInt8.ofNat n.val := by decide +kernel
theorem hexd_hexV (c : UInt8) (h : 0 ≤ hexV c) : hexd (hexV c).toNat = c := by
  have e : UInt8.ofNat c.toNat = c := by simp
  have := hexd_hexV_all ⟨c.toNat, c.toNat_lt⟩
  simp only [e] at this
  exact this h
/-- the byte that two hexadecimal digits say, and its width: 0 if Quote doesn't write it so -/
def hexB (a b : UInt8) : UInt8 := UInt8.ofNat (16 * hexV a + hexV b).toNat
def hb2 (a b : UInt8) : UInt8 × Nat := if hexV a < 0 ∨ hexV b < 0 then (0, 0) else if hxB (hexB a b) then (hexB a b, 4) else (0, 0)
theorem hexB_toNat (a b : UInt8) (ha : 0 ≤ hexV a) (hb : 0 ≤ hexV b) : (hexB a b).toNat = (16 * hexV a + hexV b).toNat := by
  have := hexV_lt a
  have := hexV_lt b
  rw [hexB, UInt8.toNat_ofNat']
  omega
theorem hexB_hexd (c : UInt8) : hexB (hexd (c.toNat / 16)) (hexd (c.toNat % 16)) = c := by
  have h := c.toNat_lt
  have h1 := hexV_hexd ⟨c.toNat / 16, by omega⟩
  have h2 := hexV_hexd ⟨c.toNat % 16, by omega⟩
  apply UInt8.toNat_inj.1
  simp only at h1 h2
  rw [hexB_toNat _ _ (by omega) (by omega), h1, h2]
  omega
/-- the byte at the head of a quoted text's inside, and how many bytes are written for it -/
def dq : List UInt8 → UInt8 × Nat
  | [] => (0, 0)
  | [c] => if c.toNat = 92 ∨ hxB c = true ∨ bsB c = true then (0, 0) else (c, 1)
  | c :: d :: r => if c.toNat = 92 then (if bsB d then (d, 2) else if d.toNat = 120 then (match r with | a :: b :: _ => hb2 a b | _ => (0, 0)) else (0, 0))
      else if hxB c = true ∨ bsB c = true then (0, 0) else (c, 1)
theorem bsB_92 (c : UInt8) (h : bsB c = false) : c.toNat ≠ 92 := by simp [bsB] at h; omega
theorem dq_qb (c : UInt8) (r : List UInt8) : dq (qb c ++ r) = (c, (qb c).length) := by
  unfold qb
  cases hx : hxB c
  · cases hb : bsB c
    · have h := bsB_92 c hb
      cases r <;> simp [dq, hx, hb, h]
    · simp [dq, hb]
  · have h := c.toNat_lt
    have h1 := hexV_hexd ⟨c.toNat / 16, by omega⟩
    have h2 := hexV_hexd ⟨c.toNat % 16, by omega⟩
    simp only at h1 h2
    simp only [if_true, List.cons_append, List.nil_append]
    have e1 : bsB 120 = false := by decide
    simp only [dq, e1, hb2, hexB_hexd, hx, h1, h2]
    rw [if_pos (by decide), if_neg (by simp), if_pos (by decide), if_neg (by omega)]
    simp
theorem qb_of_hb2 (a b : UInt8) (h : (hb2 a b).2 ≠ 0) : qb (hb2 a b).1 = [92, 120, a, b] ∧ (hb2 a b).2 = 4 := by
  unfold hb2 at h ⊢
  by_cases h1 : hexV a < 0 ∨ hexV b < 0
  · rw [if_pos h1] at h; exact absurd rfl h
  rw [if_neg h1] at h ⊢
  cases hx : hxB (hexB a b)
  · rw [hx] at h; exact absurd rfl h
  · rw [if_pos rfl]
    refine ⟨?_, rfl⟩
    have ha : 0 ≤ hexV a := by omega
    have hb : 0 ≤ hexV b := by omega
    have l1 := hexV_lt a
    have l2 := hexV_lt b
    have e := hexB_toNat a b ha hb
    have e1 : (hexB a b).toNat / 16 = (hexV a).toNat := by omega
    have e2 : (hexB a b).toNat % 16 = (hexV b).toNat := by omega
    simp only [qb, hx, if_true, e1, e2, hexd_hexV a ha, hexd_hexV b hb]
theorem dq_some (l : List UInt8) (h : (dq l).2 ≠ 0) : l = qb (dq l).1 ++ l.drop (dq l).2 ∧ (dq l).2 = (qb (dq l).1).length := by
  match l with
  | [] => exact absurd rfl h
  | [c] =>
    simp only [dq] at h ⊢
    by_cases h1 : c.toNat = 92 ∨ hxB c = true ∨ bsB c = true
    · rw [if_pos h1] at h; exact absurd rfl h
    · rw [if_neg h1]
      have hx : hxB c = false := by cases hx : hxB c; · rfl
                                    exact absurd (.inr (.inl hx)) h1
      have hb : bsB c = false := by cases hb : bsB c; · rfl
                                    exact absurd (.inr (.inr hb)) h1
      simp [qb, hx, hb]
  | c :: d :: r =>
    unfold dq at h ⊢
    by_cases hc : c.toNat = 92
    · have ec : c = 92 := UInt8.toNat_inj.1 hc
      simp only [hc, if_true] at h ⊢
      cases hb : bsB d
      · simp only [hb, Bool.false_eq_true, if_false] at h ⊢
        by_cases hd : d.toNat = 120
        · have ed : d = 120 := UInt8.toNat_inj.1 hd
          simp only [hd, if_true] at h ⊢
          match r with
          | [] => exact absurd rfl h
          | [a] => exact absurd rfl h
          | a :: b :: r' =>
            simp only at h ⊢
            obtain ⟨h1, h2⟩ := qb_of_hb2 a b h
            rw [h1, h2, ec, ed]
            exact ⟨rfl, rfl⟩
        · rw [if_neg hd] at h; exact absurd rfl h
      · simp only [if_true] at h ⊢
        have hx : hxB d = false := by simp [bsB] at hb; simp [hxB]; omega
        simp [qb, hx, hb, ec]
    · simp only [hc, if_false] at h ⊢
      by_cases h1 : hxB c = true ∨ bsB c = true
      · rw [if_pos h1] at h; exact absurd rfl h
      · rw [if_neg h1]
        have hx : hxB c = false := by cases hx : hxB c; · rfl
                                      exact absurd (.inl hx) h1
        have hb : bsB c = false := by cases hb : bsB c; · rfl
                                      exact absurd (.inr hb) h1
        simp [qb, hx, hb]
/-- what is quoted is read in one way alone -/
theorem qb_split : ∀ (l t R : List UInt8), t.flatMap qb = l.flatMap qb ++ R → ∃ t', t = l ++ t' ∧ R = t'.flatMap qb
  | [], t, R, h => ⟨t, rfl, by simpa using h.symm⟩
  | c :: l, [], R, h => by
    have := congrArg List.length h
    have := qb_pos c
    simp at *
    omega
  | c :: l, d :: t, R, h => by
    simp only [List.flatMap_cons, List.append_assoc] at h
    have e := congrArg dq h
    rw [dq_qb, dq_qb] at e
    have ec : d = c := (Prod.mk.inj e).1
    subst ec
    obtain ⟨t', h1, h2⟩ := qb_split l t R (List.append_cancel_left h)
    exact ⟨t', by rw [h1]; rfl, h2⟩
theorem flatMap_qb_inj (l t : List UInt8) (h : t.flatMap qb = l.flatMap qb) : t = l := by
  obtain ⟨t', h1, h2⟩ := qb_split l t [] (by simpa using h)
  have : t' = [] := by
    cases t' with
    | nil => rfl
    | cons c r =>
      have := congrArg List.length h2
      have := qb_pos c
      simp at *
      omega
  rw [h1, this, List.append_nil]
theorem quoteL_inj (l t : List UInt8) (h : quoteL t = quoteL l) : t = l := by
  unfold quoteL at h
  have h1 := (List.cons.inj h).2
  exact flatMap_qb_inj l t (List.append_cancel_right h1)
theorem dq_bad (c : UInt8) (r : List UInt8) (hc : c.toNat ≠ 92) (h : hxB c = true ∨ bsB c = true) : dq (c :: r) = (0, 0) := by
  cases r with
  | nil => simp only [dq]; rw [if_pos (.inr h)]
  | cons d r => simp only [dq]; rw [if_neg hc, if_pos h]
theorem dq_one (c : UInt8) (r : List UInt8) (hc : c.toNat ≠ 92) (hx : hxB c = false) (hb : bsB c = false) : dq (c :: r) = (c, 1) := by
  cases r <;> simp [dq, hc, hx, hb]
theorem dq_end (c : UInt8) (hc : c.toNat = 92) : dq [c] = (0, 0) := by simp only [dq]; rw [if_pos (.inl hc)]
theorem dq_two (c d : UInt8) (r : List UInt8) (hc : c.toNat = 92) (hb : bsB d = true) : dq (c :: d :: r) = (d, 2) := by simp only [dq]; rw [if_pos hc, if_pos hb]
theorem dq_esc (c d : UInt8) (r : List UInt8) (hc : c.toNat = 92) (hb : bsB d = false) (hd : d.toNat ≠ 120) : dq (c :: d :: r) = (0, 0) := by
  simp only [dq]; rw [if_pos hc, if_neg (by simp [hb]), if_neg hd]
theorem dq_short (c d : UInt8) (r : List UInt8) (hc : c.toNat = 92) (hd : d.toNat = 120) (hr : r.length < 2) : dq (c :: d :: r) = (0, 0) := by
  have hb : bsB d = false := by simp [bsB, hd]
  simp only [dq]; rw [if_pos hc, if_neg (by simp [hb]), if_pos hd]
  match r, hr with
  | [], _ => rfl
  | [_], _ => rfl
  | _ :: _ :: _, hr => simp at hr; omega
theorem dq_hex (c d a b : UInt8) (r : List UInt8) (hc : c.toNat = 92) (hd : d.toNat = 120) : dq (c :: d :: a :: b :: r) = hb2 a b := by
  have hb : bsB d = false := by simp [bsB, hd]
  simp only [dq]; rw [if_pos hc, if_neg (by simp [hb]), if_pos hd]
/-- the first bytes of a text, taken out -/
theorem bytes_cons1 (s : ByteArray) (h : 0 < s.size) : s.data.toList = s[0] :: s.data.toList.drop 1 := by
  conv => lhs; rw [← List.drop_zero (l := s.data.toList), List.drop_eq_getElem_cons (by simpa using h)]
  rfl
theorem bytes_drop (s : ByteArray) (k : Nat) (h : k < s.size) : s.data.toList.drop k = s[k] :: s.data.toList.drop (k + 1) := by
  rw [List.drop_eq_getElem_cons (by simpa using h)]; rfl
theorem bytes_len (s : ByteArray) (k : Nat) : (s.data.toList.drop k).length = s.size - k := by simp
/-- what a quoted text looks like from outside -/
theorem quoted_ends {s : ByteArray} {t : List UInt8} (h : s.data.toList = quoteL t) : ∃ h2 : 2 ≤ s.size, (s[0]'(by omega)).toNat = 34 ∧ (s[s.size - 1]'(by omega)).toNat = 34 := by
  have hl : s.size = (quoteL t).length := by rw [← h]; simp
  have h2 : 2 ≤ s.size := by rw [hl]; simp [quoteL]
  refine ⟨h2, ?_, ?_⟩
  · have e : s.data.toList[0]? = some 34 := by rw [h]; rfl
    have e' : s.data.toList[0]? = some (s[0]'(by omega)) := by rw [List.getElem?_eq_getElem (by simp; omega)]; rfl
    rw [e'] at e
    rw [Option.some.inj e]
    rfl
  · have e : s.data.toList[s.size - 1]? = some 34 := by
      rw [h, hl]
      simp only [quoteL]
      rw [List.getElem?_eq_getElem (by simp)]
      simp
    have e' : s.data.toList[s.size - 1]? = some (s[s.size - 1]'(by omega)) := by rw [List.getElem?_eq_getElem (by simp; omega)]; rfl
    rw [e'] at e
    rw [Option.some.inj e]
    rfl
theorem extract_list (s : ByteArray) (a b : Nat) : (s.extract a b).data.toList = (s.data.toList.take b).drop a := by
  rw [ByteArray.data_extract, Array.toList_extract, List.extract_eq_take_drop, List.drop_take]
theorem inside_list (s : ByteArray) (h2 : 2 ≤ s.size) (h0 : (s[0]'(by omega)).toNat = 34) (h1 : (s[s.size - 1]'(by omega)).toNat = 34) :
    s.data.toList = 34 :: ((s.extract 1 (s.size - 1)).data.toList ++ [34]) := by
  have e0 : s[0]'(by omega) = 34 := UInt8.toNat_inj.1 h0
  have e1 : s[s.size - 1]'(by omega) = 34 := UInt8.toNat_inj.1 h1
  have hl : s.data.toList.length = s.size := by simp
  have a : s.data.toList = s.data.toList.take (s.size - 1) ++ [34] := by
    conv => lhs; rw [← List.take_length (l := s.data.toList), hl, show s.size = s.size - 1 + 1 from by omega]
    rw [List.take_succ_eq_append_getElem (by omega)]
    congr 2
  have b : s.data.toList.take (s.size - 1) = 34 :: (s.data.toList.take (s.size - 1)).drop 1 := by
    conv => lhs; rw [← List.drop_zero (l := s.data.toList.take (s.size - 1)), List.drop_eq_getElem_cons (by simp; omega)]
    congr 1
    rw [List.getElem_take]
    exact e0
  rw [extract_list]
  conv => lhs; rw [a, b]
  rfl
theorem unq_none {s : List UInt8} {l r : List UInt8} (h : s = 34 :: (l.flatMap qb ++ (r ++ [34]))) (hr : r ≠ []) (hd : (dq r).2 = 0) : ∀ t, s ≠ quoteL t := by
  intro t ht
  rw [ht] at h
  unfold quoteL at h
  have h1 := (List.cons.inj h).2
  rw [← List.append_assoc] at h1
  obtain ⟨t', _, h2⟩ := qb_split l t r (List.append_cancel_right h1)
  cases t' with
  | nil => exact hr (by simpa using h2)
  | cons c t'' =>
    rw [h2, List.flatMap_cons, dq_qb] at hd
    have := qb_pos c
    simp only at hd
    omega
theorem unq_step {s : List UInt8} {l r : List UInt8} {c : UInt8} {n : Nat} (h : s = 34 :: (l.flatMap qb ++ (r ++ [34]))) (hd : dq r = (c, n)) (hn : n ≠ 0) :
    s = 34 :: ((l ++ [c]).flatMap qb ++ (r.drop n ++ [34])) ∧ n ≤ r.length := by
  have h2 := dq_some r (by rw [hd]; exact hn)
  rw [hd] at h2
  simp only at h2
  constructor
  · rw [h]
    conv => lhs; rw [h2.1]
    simp
  · have := congrArg List.length h2.1
    rw [List.length_append, ← h2.2] at this
    omega

/-! ### lines -/
def okB (c : UInt8) : Bool := decide (33 ≤ c.toNat ∧ c.toNat ≤ 126 ∧ c.toNat ≠ 34)
def plainL (l : List UInt8) : Bool := !l.isEmpty && l.all okB
/-- how a word is written -/
def encW (l : List UInt8) : List UInt8 := if plainL l then l else quoteL l
def joinL : List (List UInt8) → List UInt8
  | [] => []
  | w :: r => encW w ++ r.flatMap fun x => 32 :: encW x
theorem joinL_snoc (l : List (List UInt8)) (w : List UInt8) (h : l ≠ []) : joinL (l ++ [w]) = joinL l ++ 32 :: encW w := by
  cases l with
  | nil => exact absurd rfl h
  | cons x r => simp [joinL]
theorem encW_le (w : List UInt8) : (encW w).length ≤ 4 * w.length + 2 := by
  unfold encW
  split
  · omega
  · have := flatMap_qb_le w
    simp only [quoteL, List.length_cons, List.length_append, List.length_nil]
    omega
theorem joinL_le (l : List (List UInt8)) : (joinL l).length ≤ 4 * (l.map List.length).sum + 3 * l.length := by
  have h : ∀ r : List (List UInt8), (r.flatMap fun x => 32 :: encW x).length ≤ 4 * (r.map List.length).sum + 3 * r.length := by
    intro r
    induction r with
    | nil => simp
    | cons x r ih =>
      have := encW_le x
      simp only [List.flatMap_cons, List.length_append, List.length_cons, List.map_cons, List.sum_cons]
      omega
  cases l with
  | nil => simp [joinL]
  | cons x r =>
    have := encW_le x
    have := h r
    simp only [joinL, List.length_append, List.map_cons, List.sum_cons, List.length_cons]
    omega
theorem sum_take_le : ∀ (l : List (List UInt8)) (k : Nat), ((l.take k).map List.length).sum ≤ (l.map List.length).sum
  | [], k => by simp
  | x :: r, 0 => by simp
  | x :: r, k + 1 => by have := sum_take_le r k; simp only [List.take_succ_cons, List.map_cons, List.sum_cons]; omega
theorem len_le_sum : ∀ (l : List (List UInt8)) (x : List UInt8), x ∈ l → x.length ≤ (l.map List.length).sum
  | y :: r, x, h => by
    rcases List.mem_cons.1 h with rfl | h
    · simp
    · have := len_le_sum r x h
      simp only [List.map_cons, List.sum_cons]; omega

/-- each word with a space behind it -/
def enc32 (w : List UInt8) : List UInt8 := encW w ++ [32]
theorem flat_eq : ∀ l : List (List UInt8), l ≠ [] → l.flatMap enc32 = joinL l ++ [32]
  | [], h => absurd rfl h
  | [w], _ => by simp [enc32, joinL]
  | w :: x :: r, _ => by
    have := flat_eq (x :: r) (by simp)
    rw [List.flatMap_cons, this]
    simp [enc32, joinL]
theorem plain_ne (w : List UInt8) (h : plainL w = true) : w ≠ [] := by
  intro e; rw [e] at h; simp [plainL] at h
theorem encW_ne (w : List UInt8) : encW w ≠ [] := by
  unfold encW
  split
  · rename_i h; exact plain_ne w h
  · simp [quoteL]
theorem joinL_ne (l : List (List UInt8)) (h : l ≠ []) : joinL l ≠ [] := by
  cases l with
  | nil => exact absurd rfl h
  | cons x r => simp [joinL, encW_ne]
theorem quote_not_plain (t : List UInt8) : plainL (quoteL t) = false := by
  simp [plainL, quoteL, okB]
theorem encW_inj (a b : List UInt8) (h : encW a = encW b) : a = b := by
  unfold encW at h
  cases ha : plainL a <;> cases hb : plainL b <;> simp only [ha, hb, Bool.false_eq_true, if_true, if_false] at h
  · exact quoteL_inj b a h
  · rw [← h, quote_not_plain] at hb; cases hb
  · rw [h, quote_not_plain] at ha; cases ha
  · exact h

/-! ### the machine that splits a line -/
def scanQ (q e : Bool) (c : UInt8) : Bool := if e then q else if c.toNat = 34 then !q else q
def scanE (q e : Bool) (c : UInt8) : Bool := if e then false else if c.toNat = 92 then q else false
/-- no split inside; ends outside of a quoted text -/
def clean : Bool → Bool → List UInt8 → Bool
  | q, e, [] => !q && !e
  | q, e, c :: r => (e || q || decide (c.toNat ≠ 32)) && clean (scanQ q e c) (scanE q e c) r
theorem clean_plain : ∀ r : List UInt8, r.all okB = true → clean false false r = true
  | [], _ => rfl
  | c :: r, h => by
    simp only [List.all_cons, Bool.and_eq_true] at h
    have hc : okB c = true := h.1
    simp [okB] at hc
    have h34 : ¬ c.toNat = 34 := hc.2.2
    have h32 : c.toNat ≠ 32 := by omega
    simp only [clean, scanQ, scanE, Bool.false_eq_true, if_false, h34, ite_self, clean_plain r h.2]
    simpa using h32
theorem hexd_plain : ∀ n : Fin 16, (hexd n.val).toNat ≠ 34 ∧ (hexd n.val).toNat ≠ 92 ∧ (hexd n.val).toNat < 128 := by decide +kernel
theorem clean_qb (c : UInt8) (r : List UInt8) (h : clean true false r = true) : clean true false (qb c ++ r) = true := by
  unfold qb
  cases hx : hxB c
  · cases hb : bsB c
    · simp [bsB] at hb
      simp [clean, scanQ, scanE, hb, h]
    · simp [clean, scanQ, scanE, h]
  · have h1 := hexd_plain ⟨c.toNat / 16, by have := c.toNat_lt; omega⟩
    have h2 := hexd_plain ⟨c.toNat % 16, by omega⟩
    simp only at h1 h2
    simp [clean, scanQ, scanE, h, h1, h2]
theorem clean_flat : ∀ t : List UInt8, clean true false (t.flatMap qb ++ [34]) = true
  | [] => by decide
  | c :: t => by rw [List.flatMap_cons, List.append_assoc]; exact clean_qb c _ (clean_flat t)
theorem clean_encW (w : List UInt8) : clean false false (encW w) = true := by
  cases h : plainL w
  · have e : encW w = quoteL w := by simp [encW, h]
    have e2 := clean_flat w
    rw [e, quoteL]
    simp [clean, scanQ, scanE, e2]
  · have e : encW w = w := by simp [encW, h]
    rw [e]
    simp [plainL] at h
    exact clean_plain w (by simpa using h.2)
def ascii (l : List UInt8) : Bool := l.all fun c => decide (c.toNat < 128)
theorem ascii_qb (c : UInt8) : ascii (qb c) = true := by
  unfold qb
  cases hx : hxB c
  · simp [hxB] at hx
    cases hb : bsB c
    · simp [ascii]; omega
    · simp [ascii]; omega
  · have h1 := hexd_plain ⟨c.toNat / 16, by have := c.toNat_lt; omega⟩
    have h2 := hexd_plain ⟨c.toNat % 16, by omega⟩
    simp only at h1 h2
    simp [ascii, h1, h2]
theorem ascii_append (a b : List UInt8) : ascii (a ++ b) = (ascii a && ascii b) := by simp [ascii]
theorem ascii_flat : ∀ t : List UInt8, ascii (t.flatMap qb) = true
  | [] => rfl
  | c :: t => by rw [List.flatMap_cons, ascii_append, ascii_qb, ascii_flat t]; rfl
theorem ascii_encW (w : List UInt8) : ascii (encW w) = true := by
  cases h : plainL w
  · have e : encW w = quoteL w := by simp [encW, h]
    have e2 := ascii_flat w
    rw [e, quoteL]
    show ascii (34 :: (w.flatMap qb ++ [34])) = true
    rw [show (34 : UInt8) :: (w.flatMap qb ++ [34]) = [34] ++ (w.flatMap qb ++ [34]) from rfl, ascii_append, ascii_append, e2]
    decide
  · have e : encW w = w := by simp [encW, h]
    rw [e]
    simp [plainL] at h
    simp only [ascii, List.all_eq_true, decide_eq_true_eq]
    intro c hc
    have := h.2 c hc
    simp [okB] at this
    omega

/-- where the machine stands in the line of the words l, each with a space behind it -/
def At (l : List (List UInt8)) (S : List UInt8) (m pos start : Nat) (q e : Bool) : Prop :=
  (∃ w r pre xs, l.drop m = w :: r ∧ pre ++ xs = encW w ∧ clean q e xs = true ∧ start + pre.length = pos ∧ S.drop start = encW w ++ 32 :: r.flatMap enc32) ∨
  (l.drop m = [] ∧ S.length = pos ∧ start = pos ∧ q = false ∧ e = false)
theorem at_zero (l : List (List UInt8)) : At l (l.flatMap enc32) 0 0 0 false false := by
  cases l with
  | nil => exact .inr ⟨rfl, rfl, rfl, rfl, rfl⟩
  | cons w r => exact .inl ⟨w, r, [], encW w, rfl, rfl, clean_encW w, rfl, by simp [enc32]⟩
theorem at_le {l : List (List UInt8)} {S : List UInt8} {m pos start : Nat} {q e : Bool} (h : At l S m pos start q e) : start ≤ pos := by
  rcases h with ⟨w, r, pre, xs, _, _, _, h, _⟩ | ⟨_, _, h, _⟩ <;> omega
theorem at_step {l : List (List UInt8)} {S : List UInt8} {m pos start : Nat} {q e : Bool} (h : At l S m pos start q e) (hp : pos < S.length) :
    (S[pos]).toNat < 128 ∧
    (((S[pos]).toNat = 32 ∧ q = false ∧ e = false ∧ ∃ w, l.take (m + 1) = l.take m ++ [w] ∧ (S.take pos).drop start = encW w ∧ At l S (m + 1) (pos + 1) (pos + 1) false false) ∨
     ((e || q || decide ((S[pos]).toNat ≠ 32)) = true ∧ At l S m (pos + 1) start (scanQ q e S[pos]) (scanE q e S[pos]))) := by
  rcases h with ⟨w, r, pre, xs, hl, he, hc, hs, hd⟩ | ⟨_, h, _⟩
  · have hdp : S.drop pos = xs ++ 32 :: r.flatMap enc32 := by
      have : S.drop pos = (S.drop start).drop pre.length := by rw [List.drop_drop, hs]
      rw [this, hd, ← he, List.append_assoc, List.drop_left]
    have hg : S[pos] :: S.drop (pos + 1) = xs ++ 32 :: r.flatMap enc32 := by rw [← hdp, List.drop_eq_getElem_cons hp]
    cases xs with
    | nil =>
      have h1 := (List.cons.inj hg)
      have hq : q = false ∧ e = false := by simp [clean] at hc; exact ⟨hc.1, hc.2⟩
      rw [List.append_nil] at he
      refine ⟨by rw [h1.1]; decide, .inl ⟨by rw [h1.1]; rfl, hq.1, hq.2, w, ?_, ?_, ?_⟩⟩
      · have hm : m < l.length := by
          rcases Nat.lt_or_ge m l.length with h | h
          · exact h
          · rw [List.drop_eq_nil_of_le h] at hl; cases hl
        rw [List.take_succ_eq_append_getElem hm]
        rw [List.drop_eq_getElem_cons hm] at hl
        rw [(List.cons.inj hl).1]
      · have : (S.take pos).drop start = (S.drop start).take pre.length := by
          rw [List.drop_take]
          congr 1
          omega
        rw [this, hd, ← he, List.take_left]
      · have hr : l.drop (m + 1) = r := by
          rw [← List.drop_drop, hl]; rfl
        cases r with
        | nil =>
          refine .inr ⟨hr, ?_, rfl, rfl, rfl⟩
          have := congrArg List.length h1.2
          simp at this
          omega
        | cons w' r' => exact .inl ⟨w', r', [], encW w', hr, rfl, clean_encW w', rfl, by rw [h1.2]; simp [enc32]⟩
    | cons c xs' =>
      have h1 := (List.cons.inj hg)
      have ha : ascii (pre ++ c :: xs') = true := by rw [he]; exact ascii_encW w
      have hca : c.toNat < 128 := by
        simp only [ascii, List.all_eq_true, decide_eq_true_eq] at ha
        exact ha c (by simp)
      rw [h1.1]
      simp only [clean, Bool.and_eq_true] at hc
      exact ⟨hca, .inr ⟨hc.1, .inl ⟨w, r, pre ++ [c], xs', hl, by simpa using he, hc.2, by simp; omega, hd⟩⟩⟩
  · omega
theorem at_end {l : List (List UInt8)} {S : List UInt8} {m pos start : Nat} {q e : Bool} (h : At l S m pos start q e) (hp : S.length ≤ pos) : l.take m = l ∧ S.length ≤ start := by
  rcases h with ⟨w, r, pre, xs, hl, he, hc, hs, hd⟩ | ⟨hl, h1, h2, _⟩
  · have h1 := congrArg List.length hd
    have h2 := congrArg List.length he
    simp only [List.length_drop, List.length_append, List.length_cons] at h1 h2
    omega
  · refine ⟨List.take_of_length_le ?_, by omega⟩
    exact List.drop_eq_nil_iff.1 hl

/-! ### the inside of a quoted text, as the reference skips it -/
def esc : List UInt8 → Bool
  | [] => true
  | [c] => decide (c.toNat ≠ 92 ∧ c.toNat ≠ 34)
  | c :: d :: r => if c.toNat = 92 then esc r else decide (c.toNat ≠ 34) && esc (d :: r)
theorem esc_cons (c : UInt8) (r : List UInt8) (h1 : c.toNat ≠ 92) (h2 : c.toNat ≠ 34) : esc (c :: r) = esc r := by
  cases r with
  | nil => simp [esc, h1, h2]
  | cons d r => simp [esc, h1, h2]
theorem esc_skip (c d : UInt8) (r : List UInt8) (h1 : c.toNat = 92) : esc (c :: d :: r) = esc r := by simp [esc, h1]
theorem esc_flat : ∀ t : List UInt8, esc (t.flatMap qb) = true
  | [] => rfl
  | c :: t => by
    rw [List.flatMap_cons]
    unfold qb
    cases hx : hxB c
    · cases hb : bsB c
      · simp [bsB] at hb
        simp only [Bool.false_eq_true, if_false, List.cons_append, List.nil_append]
        rw [esc_cons _ _ hb.2 hb.1]
        exact esc_flat t
      · simp only [Bool.false_eq_true, if_false, if_true, List.cons_append, List.nil_append]
        rw [esc_skip _ _ _ (by decide)]
        exact esc_flat t
    · have h1 := hexd_plain ⟨c.toNat / 16, by have := c.toNat_lt; omega⟩
      have h2 := hexd_plain ⟨c.toNat % 16, by omega⟩
      simp only at h1 h2
      simp only [if_true, List.cons_append, List.nil_append]
      rw [esc_skip _ _ _ (by decide), esc_cons _ _ h1.2.1 h1.1, esc_cons _ _ h2.2.1 h2.1]
      exact esc_flat t
/-- what is ahead of the closing mark -/
theorem esc_step (xs rest S : List UInt8) (h : esc xs = true) (hS : S = xs ++ 34 :: rest) :
    (xs = [] ∧ S = 34 :: rest) ∨ (∃ c d xs', c.toNat = 92 ∧ S = c :: d :: (xs' ++ 34 :: rest) ∧ esc xs' = true) ∨ (∃ c xs', c.toNat ≠ 92 ∧ c.toNat ≠ 34 ∧ S = c :: (xs' ++ 34 :: rest) ∧ esc xs' = true) := by
  match xs, h with
  | [], _ => exact .inl ⟨rfl, hS⟩
  | [c], h =>
    simp [esc] at h
    exact .inr (.inr ⟨c, [], h.1, h.2, hS, rfl⟩)
  | c :: d :: r, h =>
    by_cases hc : c.toNat = 92
    · rw [esc_skip _ _ _ hc] at h
      exact .inr (.inl ⟨c, d, r, hc, hS, h⟩)
    · have h34 : c.toNat ≠ 34 := by
        intro e; simp [esc, e] at h
      rw [esc_cons _ _ hc h34] at h
      exact .inr (.inr ⟨c, d :: r, hc, h34, hS, h⟩)
theorem quoteL_ge (t : List UInt8) : t.length + 2 ≤ (quoteL t).length := by
  have := flatMap_qb_ge t
  simp only [quoteL, List.length_cons, List.length_append, List.length_nil]; omega
end Go.Proofs.YtmmpalnalogfnaaGreatDoor

/- Walks of Quote, of its reference, and of their parts. -/
namespace Go.Proofs.YtmmpalnalogfnaaGreatDoor
open Go.RowKit
set_option linter.unusedSimpArgs false
set_option linter.unusedVariables false

set_option maxHeartbeats 400000 in
theorem needsHex_any (c : UInt8) (w : World) : Calls Tryz.prog 158 #[.int .u8 c.toNat] w fun e w' => e = .returned (.bool (hxB c)) ∧ w = w' := by
  by_cases h1 : (c.toNat : Int) < 32
  · go_enter Tryz.func158, Tryz.ntmps158
    go_wp2
    go_ret
    exact ⟨ret_bool (by simp [hxB]; omega), rfl⟩
  · go_enter Tryz.func158, Tryz.ntmps158
    go_wp2
    go_ret
    exact ⟨ret_bool (by simp [hxB]; omega), rfl⟩
set_option maxHeartbeats 400000 in
theorem needsBackslash_any (c : UInt8) (w : World) : Calls Tryz.prog 159 #[.int .u8 c.toNat] w fun e w' => e = .returned (.bool (bsB c)) ∧ w = w' := by
  by_cases h1 : c.toNat = 34
  · have h : ((c.toNat : Int) == 34) = true := by simp; omega
    have H1 := Lib.hid h1
    clear h1
    go_enter Tryz.func159, Tryz.ntmps159
    go_wp2
    go_ret
    exact ⟨ret_bool (by simp [bsB, H1.out]), rfl⟩
  · have h : ((c.toNat : Int) == 34) = false := by simp; omega
    have H1 := Lib.hid h1
    clear h1
    by_cases h2 : c.toNat = 92
    · have h' : ((c.toNat : Int) == 92) = true := by simp; omega
      have H2 := Lib.hid h2
      clear h2
      go_enter Tryz.func159, Tryz.ntmps159
      go_wp2
      go_ret
      exact ⟨ret_bool (by simp [bsB, H1.out, H2.out]), rfl⟩
    · have h' : ((c.toNat : Int) == 92) = false := by simp; omega
      have H2 := Lib.hid h2
      clear h2
      go_enter Tryz.func159, Tryz.ntmps159
      go_wp2
      go_ret
      exact ⟨ret_bool (by simp [bsB, H1.out, H2.out]), rfl⟩

theorem byteT : ByteT Tryz.prog 142 5 := ⟨Tryz.underlying142, Tryz.underlying5, by kernel_rfl⟩
def hexA : ByteArray := ⟨#[48, 49, 50, 51, 52, 53, 54, 55, 56, 57, 97, 98, 99, 100, 101, 102]⟩
theorem hexAtF : ∀ n : Fin 16, (hexA[n.val]'(n.isLt)) = hexd n.val := by decide +kernel
theorem hexAt (n : Nat) (h : n < 16) : (hexA[n]'h) = hexd n := hexAtF ⟨n, h⟩
theorem hexAt_eq (i n : Nat) (e : i = n) (h : i < (⟨#[48, 49, 50, 51, 52, 53, 54, 55, 56, 57, 97, 98, 99, 100, 101, 102]⟩ : ByteArray).size) :
    (⟨#[48, 49, 50, 51, 52, 53, 54, 55, 56, 57, 97, 98, 99, 100, 101, 102]⟩ : ByteArray)[i] = hexd n := by
  subst e; exact hexAt i h
theorem u8_div16 (c : UInt8) : IntKind.u8.wrap ((c.toNat : Int) / 16) = (c.toNat : Int) / 16 := by rw [IntKind.wrap_u8]; have := c.toNat_lt; omega
theorem u8_mod16 (c : UInt8) : ((c.toNat : Int)).tmod 16 = (c.toNat : Int) % 16 := Int.tmod_eq_emod_of_nonneg (by omega)
theorem hex_lo : ∀ n : Nat, n < 256 → bits .and .u8 (n : Int) 15 = (n : Int) % 16 := by decide +kernel

set_option maxRecDepth 100000 in
set_option maxHeartbeats 1000000 in
theorem quote_any (s : ByteArray) (w : World) (hs : s.size ≤ 40000) :
    Calls Tryz.prog 101 #[.string s] w fun e w' => e = .returned (.string ⟨(quoteL s.data.toList).toArray⟩) ∧ Below w.heap.size w w' := by
  obtain ⟨i0, hi, hz0, hz1, hz2⟩ := info_parts byteT.info
  have HI := Lib.hid hi
  have HZ0 := Lib.hid hz0
  have HZ1 := Lib.hid hz1
  have HZ2 := Lib.hid hz2
  clear hi hz0 hz1 hz2
  go_enter Tryz.func101, Tryz.ntmps101
  go_wp2_with (first
    | (at_make; refine wpList_make_own _ rfl _ _ 142 rfl w.heap.size 5 i0 (.int .u8 0) 1 Tryz.underlying142 HI.out HZ0.out HZ1.out _ _ _ (s.size + 2) rfl rfl (by omega) (by rw [HZ2.out]; omega) (by unfold maxLen; omega) (by simp) ?_; intro w1 hown hgrow; have hbuf := Buf.of_make (Below.refl _ _) (Nat.le_refl _) hown hgrow; clear hown hgrow)
    | (at_builtin; refine wpList_app byteT rfl _ _ rfl _ [] rfl (hbuf.alloc _) _ [34] 1 _ rfl rfl (by omega) rfl (heap_alloc_new _ _) (by simp) ?_; clear hbuf; intro v' w1 hbuf))
  have hl := flatMap_qb_le s.data.toList
  simp only [Array.length_toList, ByteArray.size_data] at hl
  simp only [List.nil_append] at hbuf
  go_loopw [3, 15] (fun v i wr => ∃ (k : Nat) (l : List UInt8), k ≤ s.size ∧ i = .int .i64 k ∧ Buf 5 w.heap.size w wr v l ∧ l ≠ [] ∧ Hid (quoteL s.data.toList = l ++ ((s.data.toList.drop k).flatMap qb ++ [34]))) (fun _ i _ => s.size - (intOf i).toNat)
  case atStart => exact ⟨0, [34], Nat.zero_le _, rfl, hbuf, by simp, Lib.hid rfl⟩
  case round =>
    obtain ⟨k, l, hk, rfl, hB, hne, HE⟩ := hrel
    have hl2 : l.length ≤ 200000 := by
      have e := congrArg List.length HE.out
      simp only [quoteL, List.length_cons, List.length_append, List.length_nil] at e
      omega
    by_cases hlt : k < s.size
    · have HS : Hid ((s.data.toList.drop k).flatMap qb = qb s[k] ++ (s.data.toList.drop (k + 1)).flatMap qb) := by
        have e : s.data.toList.drop k = s[k] :: s.data.toList.drop (k + 1) := by
          rw [List.drop_eq_getElem_cons (by simpa using hlt)]; rfl
        rw [e]; exact Lib.hid rfl
      cases hx : hxB s[k]
      · cases hb : bsB s[k]
        · have HQ : Hid (qb s[k] = [s[k]]) := by rw [qb, hx, hb]; exact Lib.hid rfl
          go_wp2_with (first
            | (go_at_call 158; refine (needsHex_any _ _).mono ?_; rintro e w' ⟨rfl, rfl⟩)
            | (go_at_call 159; refine (needsBackslash_any _ _).mono ?_; rintro e w' ⟨rfl, rfl⟩)
            | (at_builtin; refine wpList_app byteT rfl _ _ rfl _ l rfl (hB.alloc _) _ [s[k]] 1 _ rfl rfl (by omega) rfl (heap_alloc_new _ _) (by omega) ?_; intro v' w1 hbuf'))
          go_roundw
          case rel => exact ⟨k + 1, _, by omega, by go_num, hbuf', by simp, Lib.hid (by rw [HE.out, HS.out, HQ.out]; simp only [List.append_assoc])⟩
          case measure => simp [intOf]; omega
        · have HQ : Hid (qb s[k] = [92, s[k]]) := by rw [qb, hx, hb]; exact Lib.hid rfl
          go_wp2_with (first
            | (go_at_call 158; refine (needsHex_any _ _).mono ?_; rintro e w' ⟨rfl, rfl⟩)
            | (go_at_call 159; refine (needsBackslash_any _ _).mono ?_; rintro e w' ⟨rfl, rfl⟩)
            | (at_builtin; refine wpList_app byteT rfl _ _ rfl _ l rfl (hB.alloc _) _ [92, s[k]] 2 _ rfl rfl (by omega) rfl (heap_alloc_new _ _) (by omega) ?_; intro v' w1 hbuf'))
          go_roundw
          case rel => exact ⟨k + 1, _, by omega, by go_num, hbuf', by simp, Lib.hid (by rw [HE.out, HS.out, HQ.out]; simp only [List.append_assoc])⟩
          case measure => simp [intOf]; omega
      · have HQ : Hid (qb s[k] = [92, 120, hexd (s[k].toNat / 16), hexd (s[k].toNat % 16)]) := by rw [qb, hx]; exact Lib.hid rfl
        go_wp2_with (first
            | (go_at_call 158; refine (needsHex_any _ _).mono ?_; rintro e w' ⟨rfl, rfl⟩)
            | (go_at_call 159; refine (needsBackslash_any _ _).mono ?_; rintro e w' ⟨rfl, rfl⟩))
        have hlo := Lib.hid (hex_lo s[k].toNat s[k].toNat_lt)
        have b1 : (0 : Int) ≤ (s[k].toNat : Int) / 16 := by omega
        have b2 : (s[k].toNat : Int) / 16 < 16 := by have := s[k].toNat_lt; omega
        have b3 : (0 : Int) ≤ (s[k].toNat : Int) % 16 := by omega
        have b4 : (s[k].toNat : Int) % 16 < 16 := by omega
        have hlo' := hlo.out
        have e1 := hexAt_eq ((s[k].toNat : Int) / 16).toNat (s[k].toNat / 16) (by omega)
        have e2 := hexAt_eq ((s[k].toNat : Int) % 16).toNat (s[k].toNat % 16) (by omega)
        go_region_law ((refine step_app byteT rfl _ _ rfl _ l rfl ((hB.alloc _).drew) _ [92, 120, hexd (s[k].toNat / 16), hexd (s[k].toNat % 16)] 4 _ rfl rfl (by omega) rfl (heap_alloc_new _ _) (by omega) ?_; intro v' w1 hbuf'))
        all_goals go_wp2
        all_goals
          go_roundw
          case rel => exact ⟨k + 1, _, by omega, by go_num, hbuf', by simp, Lib.hid (by rw [HE.out, HS.out, HQ.out]; simp only [List.append_assoc])⟩
          case measure => simp [intOf]; omega
    · have HD : Hid (s.data.toList.drop k = []) := Lib.hid (List.drop_eq_nil_of_le (by simpa using hlt))
      go_wp2_with (at_builtin; refine wpList_app byteT rfl _ _ rfl _ l rfl (hB.alloc _) _ [34] 1 _ rfl rfl (by omega) rfl (heap_alloc_new _ _) (by omega) ?_; intro v' w1 hbuf'; obtain ⟨L, hL⟩ : ∃ L, L = l ++ [34] := ⟨_, rfl⟩; rw [← hL] at hbuf'; have hLn : L ≠ [] := (by rw [hL]; simp); have HL := Lib.hid hL; clear hL; obtain ⟨g, cap, rfl, _, _⟩ := hbuf'.form hLn; have hconv := run_convert_bytes_back (P := Tryz.prog) w1 142 9 5 ⟨g, 0, none⟩ cap L byteT.ht byteT.he Tryz.underlying9 hbuf'.cells)
      go_ret
      refine ⟨ret_str ?_, hbuf'.bel⟩
      rw [HL.out, HE.out, HD.out]; rfl

set_option maxRecDepth 100000 in
set_option maxHeartbeats 1000000 in
theorem rquote_any (s : ByteArray) (w : World) (hs : s.size ≤ 40000) :
    Calls Tryz.prog 111 #[.string s] w fun e w' => e = .returned (.string ⟨(quoteL s.data.toList).toArray⟩) ∧ Below w.heap.size w w' := by
  go_enter Tryz.func111, Tryz.ntmps111
  go_wp2
  have hl := flatMap_qb_le s.data.toList
  simp only [Array.length_toList, ByteArray.size_data] at hl
  have hbuf : Buf 5 w.heap.size w (w.alloc (.cells #[.int .u8 34] 5)) (.slice (some ⟨w.heap.size, 0, none⟩) 1 1) [34] := Buf.new (Below.refl _ _) (Nat.le_refl _) [34] rfl rfl (by simp)
  go_loopw [3, 4] (fun v i wr => ∃ (k : Nat) (l : List UInt8), k ≤ s.size ∧ i = .int .i64 k ∧ Buf 5 w.heap.size w wr v l ∧ l ≠ [] ∧ Hid (quoteL s.data.toList = l ++ ((s.data.toList.drop k).flatMap qb ++ [34]))) (fun _ i _ => s.size - (intOf i).toNat)
  case atStart => exact ⟨0, [34], Nat.zero_le _, rfl, hbuf, by simp, Lib.hid rfl⟩
  case round =>
    obtain ⟨k, l, hk, rfl, hB, hne, HE⟩ := hrel
    have hl2 : l.length ≤ 200000 := by
      have e := congrArg List.length HE.out
      simp only [quoteL, List.length_cons, List.length_append, List.length_nil] at e
      omega
    by_cases hlt : k < s.size
    · have HS : Hid ((s.data.toList.drop k).flatMap qb = qb s[k] ++ (s.data.toList.drop (k + 1)).flatMap qb) := by
        have e : s.data.toList.drop k = s[k] :: s.data.toList.drop (k + 1) := by
          rw [List.drop_eq_getElem_cons (by simpa using hlt)]; rfl
        rw [e]; exact Lib.hid rfl
      cases hx : hxB s[k]
      · have h1 : ¬ (s[k].toNat : Int) < 32 := by simp [hxB] at hx; omega
        have h2 : ¬ 126 < (s[k].toNat : Int) := by simp [hxB] at hx; omega
        cases hb : bsB s[k]
        · have HQ : Hid (qb s[k] = [s[k]]) := by rw [qb, hx, hb]; exact Lib.hid rfl
          have h3 : ((s[k].toNat : Int) == 34) = false := by simp [bsB] at hb; simp; omega
          have h4 : ((s[k].toNat : Int) == 92) = false := by simp [bsB] at hb; simp; omega
          go_wp2_with (at_builtin; refine wpList_app byteT rfl _ _ rfl _ l rfl (hB.alloc _) _ [s[k]] 1 _ rfl rfl (by omega) rfl (heap_alloc_new _ _) (by omega) ?_; intro v' w1 hbuf')
          go_roundw
          case rel => exact ⟨k + 1, _, by omega, by go_num, hbuf', by simp, Lib.hid (by rw [HE.out, HS.out, HQ.out]; simp only [List.append_assoc])⟩
          case measure => simp [intOf]; omega
        · have HQ : Hid (qb s[k] = [92] ++ [s[k]]) := by rw [qb, hx, hb]; exact Lib.hid rfl
          by_cases h34 : s[k].toNat = 34
          · have h3 : ((s[k].toNat : Int) == 34) = true := by simp; omega
            clear h34
            go_wp2_with (first
              | (at_builtin; refine wpList_app byteT rfl (.tmp 37) _ rfl _ l rfl (hB.alloc _) _ [92] 1 _ rfl rfl (by omega) rfl (heap_alloc_new _ _) (by omega) ?_; intro v1 w1 hbuf1)
              | (at_builtin; refine wpList_app byteT rfl (.tmp 40) _ rfl _ _ rfl (hbuf1.alloc _) _ [s[k]] 1 _ rfl rfl (by omega) rfl (heap_alloc_new _ _) (by simp; omega) ?_; intro v' w1 hbuf'))
            go_roundw
            case rel => exact ⟨k + 1, _, by omega, by go_num, hbuf', by simp, Lib.hid (by rw [HE.out, HS.out, HQ.out]; simp only [List.append_assoc])⟩
            case measure => simp [intOf]; omega
          · have h3 : ((s[k].toNat : Int) == 34) = false := by simp; omega
            have h4 : ((s[k].toNat : Int) == 92) = true := by simp [bsB] at hb; simp; omega
            clear h34
            go_wp2_with (first
              | (at_builtin; refine wpList_app byteT rfl (.tmp 37) _ rfl _ l rfl (hB.alloc _) _ [92] 1 _ rfl rfl (by omega) rfl (heap_alloc_new _ _) (by omega) ?_; intro v1 w1 hbuf1)
              | (at_builtin; refine wpList_app byteT rfl (.tmp 40) _ rfl _ _ rfl (hbuf1.alloc _) _ [s[k]] 1 _ rfl rfl (by omega) rfl (heap_alloc_new _ _) (by simp; omega) ?_; intro v' w1 hbuf'))
            go_roundw
            case rel => exact ⟨k + 1, _, by omega, by go_num, hbuf', by simp, Lib.hid (by rw [HE.out, HS.out, HQ.out]; simp only [List.append_assoc])⟩
            case measure => simp [intOf]; omega
      · have HQ : Hid (qb s[k] = [92, 120, hexd (s[k].toNat / 16), hexd (s[k].toNat % 16)]) := by rw [qb, hx]; exact Lib.hid rfl
        have b1 : (0 : Int) ≤ (s[k].toNat : Int) / 16 := by omega
        have b2 : (s[k].toNat : Int) / 16 < 16 := by have := s[k].toNat_lt; omega
        have b3 : (0 : Int) ≤ (s[k].toNat : Int) % 16 := by omega
        have b4 : (s[k].toNat : Int) % 16 < 16 := by omega
        have e1 := hexAt_eq ((s[k].toNat : Int) / 16).toNat (s[k].toNat / 16) (by omega)
        have e2 := hexAt_eq ((s[k].toNat : Int) % 16).toNat (s[k].toNat % 16) (by omega)
        have w1 := u8_div16 s[k]
        have w2 := u8_mod16 s[k]
        by_cases h1 : (s[k].toNat : Int) < 32
        · go_wp2_with fail
          go_region_law ((refine step_app byteT rfl _ _ rfl _ l rfl ((hB.alloc _).drew) _ [92, 120, hexd (s[k].toNat / 16), hexd (s[k].toNat % 16)] 4 _ rfl rfl (by omega) rfl (heap_alloc_new _ _) (by omega) ?_; intro v' w1 hbuf'))
          all_goals go_wp2
          all_goals
            go_roundw
            case rel => exact ⟨k + 1, _, by omega, by go_num, hbuf', by simp, Lib.hid (by rw [HE.out, HS.out, HQ.out]; simp only [List.append_assoc])⟩
            case measure => simp [intOf]; omega
        · have h2 : 126 < (s[k].toNat : Int) := by simp [hxB] at hx; omega
          go_wp2_with fail
          go_region_law ((refine step_app byteT rfl _ _ rfl _ l rfl ((hB.alloc _).drew) _ [92, 120, hexd (s[k].toNat / 16), hexd (s[k].toNat % 16)] 4 _ rfl rfl (by omega) rfl (heap_alloc_new _ _) (by omega) ?_; intro v' w1 hbuf'))
          all_goals go_wp2
          all_goals
            go_roundw
            case rel => exact ⟨k + 1, _, by omega, by go_num, hbuf', by simp, Lib.hid (by rw [HE.out, HS.out, HQ.out]; simp only [List.append_assoc])⟩
            case measure => simp [intOf]; omega
    · have HD : Hid (s.data.toList.drop k = []) := Lib.hid (List.drop_eq_nil_of_le (by simpa using hlt))
      go_wp2_with (at_builtin; refine wpList_app byteT rfl _ _ rfl _ l rfl (hB.alloc _) _ [34] 1 _ rfl rfl (by omega) rfl (heap_alloc_new _ _) (by omega) ?_; intro v' w1 hbuf'; have hconv := hbuf'.text byteT Tryz.underlying9)
      go_ret
      refine ⟨ret_str ?_, hbuf'.bel⟩
      rw [HE.out, HD.out]; rfl
end Go.Proofs.YtmmpalnalogfnaaGreatDoor

/- Walks of Unquote, of its reference, and of their parts. -/
namespace Go.Proofs.YtmmpalnalogfnaaGreatDoor
open Go.RowKit
set_option linter.unusedSimpArgs false
set_option linter.unusedVariables false

/-! ### the code's hexByte and quotedByte -/
theorem index_hexD_all : ∀ n : Fin 256, Lib.indexByte hexD (UInt8.ofNat n.val) = hexV (UInt8.ofNat n.val) := by decide +kernel
theorem index_hexD (c : UInt8) : Lib.indexByte hexD c = hexV c := by
  have := index_hexD_all ⟨c.toNat, c.toNat_lt⟩
  simpa using this
theorem indexByte_hex (c : UInt8) (w : World) :
    Calls Tryz.prog 245 #[.string ⟨#[48, 49, 50, 51, 52, 53, 54, 55, 56, 57, 97, 98, 99, 100, 101, 102]⟩, .int .u8 c.toNat] w fun e w' => e = .returned (.int .i64 (hexV c)) ∧ w = w' := by
  refine (Tryz.strings_IndexByte ⟨#[48, 49, 50, 51, 52, 53, 54, 55, 56, 57, 97, 98, 99, 100, 101, 102]⟩ c.toNat w).mono ?_
  rintro e w' ⟨rfl, rfl⟩
  refine ⟨ret_int ?_, rfl⟩
  have e : ((c.toNat : Int).toNat).toUInt8 = c := by simp
  rw [e]
  exact index_hexD c
theorem or16_all : ∀ a b : Fin 16, bits .or .i64 ((a.val : Int) * 16) (b.val : Int) = 16 * (a.val : Int) + b.val := by decide +kernel
theorem or16 (a b : UInt8) (ha : 0 ≤ hexV a) (hb : 0 ≤ hexV b) : bits .or .i64 (hexV a * 16) (hexV b) = ((hexB a b).toNat : Int) := by
  have h1 := hexV_lt a
  have h2 := hexV_lt b
  have h := or16_all ⟨(hexV a).toNat, by omega⟩ ⟨(hexV b).toNat, by omega⟩
  simp only [Int.toNat_of_nonneg ha, Int.toNat_of_nonneg hb] at h
  rw [h, hexB_toNat a b ha hb]
  omega
set_option maxRecDepth 100000 in
set_option maxHeartbeats 1000000 in
theorem hexByte_any (a b : UInt8) (w : World) :
    Calls Tryz.prog 230 #[.int .u8 a.toNat, .int .u8 b.toNat] w fun e w' => e = .returned (.tuple #[.int .u8 (hb2 a b).1.toNat, .int .i64 (hb2 a b).2]) ∧ w = w' := by
  have a1 := hexV_lt a
  have a2 := hexV_ge a
  have b1 := hexV_lt b
  have b2 := hexV_ge b
  by_cases ha : hexV a < 0
  · have HE : Hid (hb2 a b = (0, 0)) := Lib.hid (by rw [hb2, if_pos (.inl ha)])
    go_enter Tryz.func230, Tryz.ntmps230
    go_wp2_with (go_at_call 245; refine (indexByte_hex _ _).mono ?_; rintro e w' ⟨rfl, rfl⟩)
    go_ret2
    exact ⟨by rw [HE.out]; rfl, rfl⟩
  by_cases hb : hexV b < 0
  · have HE : Hid (hb2 a b = (0, 0)) := Lib.hid (by rw [hb2, if_pos (.inr hb)])
    go_enter Tryz.func230, Tryz.ntmps230
    go_wp2_with (go_at_call 245; refine (indexByte_hex _ _).mono ?_; rintro e w' ⟨rfl, rfl⟩)
    go_ret2
    exact ⟨by rw [HE.out]; rfl, rfl⟩
  have HO := Lib.hid (or16 a b (by omega) (by omega))
  have h255 : ((hexB a b).toNat : Int) < 256 := by have := (hexB a b).toNat_lt; omega
  have hor := HO.out
  have hmod : ((hexB a b).toNat : Int) % 256 = ((hexB a b).toNat : Int) := by omega
  cases hx : hxB (hexB a b)
  · have HE : Hid (hb2 a b = (0, 0)) := Lib.hid (by rw [hb2, if_neg (by omega), hx]; rfl)
    go_enter Tryz.func230, Tryz.ntmps230
    go_wp2_with (first
      | (go_at_call 245; refine (indexByte_hex _ _).mono ?_; rintro e w' ⟨rfl, rfl⟩)
      | (go_at_call 158; refine (needsHex_any _ _).mono ?_; rintro e w' ⟨rfl, rfl⟩))
    go_ret2
    exact ⟨by rw [HE.out]; rfl, rfl⟩
  · have HE : Hid (hb2 a b = (hexB a b, 4)) := Lib.hid (by rw [hb2, if_neg (by omega), hx]; rfl)
    go_enter Tryz.func230, Tryz.ntmps230
    go_wp2_with (first
      | (go_at_call 245; refine (indexByte_hex _ _).mono ?_; rintro e w' ⟨rfl, rfl⟩)
      | (go_at_call 158; refine (needsHex_any _ _).mono ?_; rintro e w' ⟨rfl, rfl⟩))
    go_ret2
    exact ⟨by rw [HE.out]; rfl, rfl⟩

set_option maxRecDepth 100000 in
set_option maxHeartbeats 2000000 in
theorem quotedByte_any (s : ByteArray) (w : World) (h0 : 0 < s.size) (hs : s.size ≤ maxLen) :
    Calls Tryz.prog 208 #[.string s] w fun e w' => e = .returned (.tuple #[.int .u8 (dq s.data.toList).1.toNat, .int .i64 (dq s.data.toList).2]) ∧ ∃ n, w' = w.drewN n := by
  unfold maxLen at hs
  have hl1 := bytes_cons1 s h0
  by_cases hc : s[0].toNat = 92
  · have c1 : ((s[0].toNat : Int) != 92) = false := by simp; omega
    by_cases h2 : 1 < s.size
    · have hl2 := bytes_drop s 1 h2
      cases hb : bsB s[1]
      · by_cases hd : s[1].toNat = 120
        · have d1 : ((s[1].toNat : Int) == 120) = true := by simp; omega
          by_cases h4 : 3 < s.size
          · have hl3 := bytes_drop s 2 (by omega)
            have hl4 := bytes_drop s 3 h4
            have HE : Hid (dq s.data.toList = hb2 s[2] s[3]) := by
              rw [hl1, hl2, hl3, hl4]; exact Lib.hid (dq_hex _ _ _ _ _ hc hd)
            clear hl1 hl2 hl3 hl4 hc hd
            have i2 : (2 : Int) < (s.size : Int) := by omega
            have i3 : (3 : Int) < (s.size : Int) := by omega
            go_enter Tryz.func208, Tryz.ntmps208
            go_wp2_with (go_at_call 159; refine (needsBackslash_any _ _).mono ?_; rintro e w' ⟨rfl, rfl⟩)
            go_quiet ((go_at_call 230; exact Calls.quiet_of_same ((hexByte_any _ _ _).mono fun _ _ h => ⟨h.1, h.2.symm⟩)))
            go_wp2
            go_ret2
            exact ⟨by rw [HE.out]; rfl, _, rfl⟩
          · have HE : Hid (dq s.data.toList = (0, 0)) := by
              rw [hl1, hl2]; exact Lib.hid (dq_short _ _ _ hc hd (by rw [bytes_len]; omega))
            clear hl1 hl2 hc hd
            go_enter Tryz.func208, Tryz.ntmps208
            go_wp2_with (go_at_call 159; refine (needsBackslash_any _ _).mono ?_; rintro e w' ⟨rfl, rfl⟩)
            go_ret2
            exact ⟨by rw [HE.out]; rfl, 0, rfl⟩
        · have d1 : ((s[1].toNat : Int) == 120) = false := by simp; omega
          have HE : Hid (dq s.data.toList = (0, 0)) := by
            rw [hl1, hl2]; exact Lib.hid (dq_esc _ _ _ hc hb hd)
          clear hl1 hl2 hc hd
          by_cases h4 : 4 ≤ (s.size : Int)
          · go_enter Tryz.func208, Tryz.ntmps208
            go_wp2_with (go_at_call 159; refine (needsBackslash_any _ _).mono ?_; rintro e w' ⟨rfl, rfl⟩)
            go_ret2
            exact ⟨by rw [HE.out]; rfl, 0, rfl⟩
          · go_enter Tryz.func208, Tryz.ntmps208
            go_wp2_with (go_at_call 159; refine (needsBackslash_any _ _).mono ?_; rintro e w' ⟨rfl, rfl⟩)
            go_ret2
            exact ⟨by rw [HE.out]; rfl, 0, rfl⟩
      · have HE : Hid (dq s.data.toList = (s[1], 2)) := by
          rw [hl1, hl2]; exact Lib.hid (dq_two _ _ _ hc hb)
        clear hl1 hl2 hc
        go_enter Tryz.func208, Tryz.ntmps208
        go_wp2_with (go_at_call 159; refine (needsBackslash_any _ _).mono ?_; rintro e w' ⟨rfl, rfl⟩)
        go_ret2
        exact ⟨by rw [HE.out]; rfl, 0, rfl⟩
    · have HE : Hid (dq s.data.toList = (0, 0)) := by
        have : s.data.toList.drop 1 = [] := List.drop_eq_nil_of_le (by simp; omega)
        rw [hl1, this]; exact Lib.hid (dq_end _ hc)
      clear hl1 hc
      go_enter Tryz.func208, Tryz.ntmps208
      go_wp2_with (go_at_call 159; refine (needsBackslash_any _ _).mono ?_; rintro e w' ⟨rfl, rfl⟩)
      go_ret2
      exact ⟨by rw [HE.out]; rfl, 0, rfl⟩
  · have c1 : ((s[0].toNat : Int) != 92) = true := by simp; omega
    cases hx : hxB s[0]
    · cases hb : bsB s[0]
      · have HE : Hid (dq s.data.toList = (s[0], 1)) := by
          rw [hl1]; exact Lib.hid (dq_one _ _ hc hx hb)
        clear hl1 hc
        go_enter Tryz.func208, Tryz.ntmps208
        go_wp2_with (first
          | (go_at_call 159; refine (needsBackslash_any _ _).mono ?_; rintro e w' ⟨rfl, rfl⟩)
          | (go_at_call 158; refine (needsHex_any _ _).mono ?_; rintro e w' ⟨rfl, rfl⟩))
        go_ret2
        exact ⟨by rw [HE.out]; rfl, 0, rfl⟩
      · have HE : Hid (dq s.data.toList = (0, 0)) := by
          rw [hl1]; exact Lib.hid (dq_bad _ _ hc (.inr hb))
        clear hl1 hc
        go_enter Tryz.func208, Tryz.ntmps208
        go_wp2_with (first
          | (go_at_call 159; refine (needsBackslash_any _ _).mono ?_; rintro e w' ⟨rfl, rfl⟩)
          | (go_at_call 158; refine (needsHex_any _ _).mono ?_; rintro e w' ⟨rfl, rfl⟩))
        go_ret2
        exact ⟨by rw [HE.out]; rfl, 0, rfl⟩
    · have HE : Hid (dq s.data.toList = (0, 0)) := by
        rw [hl1]; exact Lib.hid (dq_bad _ _ hc (.inl hx))
      clear hl1 hc
      go_enter Tryz.func208, Tryz.ntmps208
      go_wp2_with (first
        | (go_at_call 159; refine (needsBackslash_any _ _).mono ?_; rintro e w' ⟨rfl, rfl⟩)
        | (go_at_call 158; refine (needsHex_any _ _).mono ?_; rintro e w' ⟨rfl, rfl⟩))
      go_ret2
      exact ⟨by rw [HE.out]; rfl, 0, rfl⟩
theorem quotedByte_eq (s : ByteArray) (c : UInt8) (n : Nat) (w : World) (h0 : 0 < s.size) (hs : s.size ≤ maxLen) (h : dq s.data.toList = (c, n)) :
    Calls Tryz.prog 208 #[.string s] w fun e w' => e = .returned (.tuple #[.int .u8 c.toNat, .int .i64 n]) ∧ ∃ n, w' = w.drewN n := by
  have := quotedByte_any s w h0 hs
  rw [h] at this
  exact this

/-- what Unquote says of a text: what it is the quoted form of, or that it is none -/
def UnqPost (s : ByteArray) (e : Ending) : Prop :=
  (∃ t, s.data.toList = quoteL t ∧ e = .returned (.tuple #[.string ⟨t.toArray⟩, .int .i64 0])) ∨
  ((∀ t, s.data.toList ≠ quoteL t) ∧ e = .returned (.tuple #[.string ⟨#[]⟩, .int .i64 3]))
def lenOf : Value → Nat
  | .string r => r.size
  | _ => 0

set_option maxRecDepth 100000 in
set_option maxHeartbeats 2000000 in
theorem unquote_any (s : ByteArray) (w : World) (hs : s.size ≤ 40000) :
    Calls Tryz.prog 162 #[.string s] w fun e w' => UnqPost s e ∧ Below w.heap.size w w' := by
  obtain ⟨i0, hi, hz0, hz1, hz2⟩ := info_parts byteT.info
  have HI := Lib.hid hi
  have HZ0 := Lib.hid hz0
  have HZ1 := Lib.hid hz1
  have HZ2 := Lib.hid hz2
  clear hi hz0 hz1 hz2
  by_cases h2 : (s.size : Int) < 2
  · have HP : Hid (∀ t, s.data.toList ≠ quoteL t) := Lib.hid fun t ht => by obtain ⟨h, _⟩ := quoted_ends ht; omega
    go_enter Tryz.func162, Tryz.ntmps162
    go_wp2
    go_ret2
    exact ⟨.inr ⟨HP.out, rfl⟩, Below.refl _ _⟩
  have h2' : 2 ≤ s.size := by omega
  by_cases hf : s[0].toNat = 34
  case neg =>
    have HP : Hid (∀ t, s.data.toList ≠ quoteL t) := Lib.hid fun t ht => by obtain ⟨h, h0, _⟩ := quoted_ends ht; exact hf h0
    have hf' : ((s[0].toNat : Int) != 34) = true := by simp; omega
    clear hf
    go_enter Tryz.func162, Tryz.ntmps162
    go_wp2
    go_ret2
    exact ⟨.inr ⟨HP.out, rfl⟩, Below.refl _ _⟩
  have hf' : ((s[0].toNat : Int) != 34) = false := by simp; omega
  by_cases hl : s[s.size - 1].toNat = 34
  case neg =>
    have HP : Hid (∀ t, s.data.toList ≠ quoteL t) := Lib.hid fun t ht => by obtain ⟨h, _, h0⟩ := quoted_ends ht; exact hl h0
    have hl' : ((s[s.size - 1].toNat : Int) != 34) = true := by simp; omega
    clear hf hl
    go_enter Tryz.func162, Tryz.ntmps162
    go_wp2
    go_ret2
    exact ⟨.inr ⟨HP.out, rfl⟩, Below.refl _ _⟩
  have hl' : ((s[s.size - 1].toNat : Int) != 34) = false := by simp; omega
  have HIN := Lib.hid (inside_list s h2' hf hl)
  clear hf hl
  go_enter Tryz.func162, Tryz.ntmps162
  go_wp2_with (at_make; refine wpList_make_own _ rfl _ _ 142 rfl w.heap.size 5 i0 (.int .u8 0) 1 Tryz.underlying142 HI.out HZ0.out HZ1.out _ _ _ (s.size - 1 - 1) rfl rfl rfl (by rw [HZ2.out]; omega) (by unfold maxLen; omega) (by simp) ?_; intro w1 hown hgrow; have hbuf := Buf.of_make (Below.refl _ _) (Nat.le_refl _) hown hgrow; clear hown hgrow)
  go_loopw [4, 5] (fun q v wr => ∃ (r : ByteArray) (l : List UInt8), q = .string r ∧ r.size ≤ 40000 ∧ Buf 5 w.heap.size w wr v l ∧ Hid (s.data.toList = 34 :: (l.flatMap qb ++ (r.data.toList ++ [34])))) (fun q _ _ => lenOf q)
  case atStart => exact ⟨s.extract 1 (s.size - 1), [], rfl, by simp [ByteArray.size_extract]; omega, hbuf, Lib.hid HIN.out⟩
  case round =>
    obtain ⟨r, l, rfl, hr, hB, HE⟩ := hrel
    have hl2 : l.length ≤ 40000 := by
      have e := congrArg List.length HE.out
      have e1 := flatMap_qb_ge l
      have e2 : s.data.toList.length = s.size := by simp
      simp only [List.length_cons, List.length_append, List.length_nil] at e
      omega
    by_cases h0 : 0 < r.size
    · have hrn : r.data.toList ≠ [] := by
        intro e
        have e := congrArg List.length e
        simp only [Array.length_toList, ByteArray.size_data, List.length_nil] at e
        omega
      have t1 := isEmpty_no r h0
      obtain ⟨c, n, hcn⟩ : ∃ c n, dq r.data.toList = (c, n) := ⟨_, _, rfl⟩
      have HD := Lib.hid hcn
      by_cases hn : n = 0
      · have HP : Hid (∀ t, s.data.toList ≠ quoteL t) := Lib.hid (unq_none HE.out hrn (by rw [hcn]; exact hn))
        have hn0 : ((n : Int) == 0) = true := by simp; omega
        clear hcn hrn hn
        go_wp2_with (go_at_call 208; refine (quotedByte_eq _ c n _ h0 (by unfold maxLen; omega) HD.out).mono ?_; rintro e w2 ⟨rfl, hq⟩)
        go_ret2
        exact ⟨.inr ⟨HP.out, rfl⟩, hB.bel.trans ((below_self hq).mono hB.base)⟩
      · have HST := Lib.hid (unq_step HE.out hcn hn)
        have hn0 : ((n : Int) == 0) = false := by simp; omega
        have hnr : n ≤ r.size := by have := HST.out.2; simpa using this
        have hnp : 0 < n := by omega
        clear hcn hrn hn
        go_wp2_with (first
          | (go_at_call 208; refine (quotedByte_eq _ c n _ h0 (by unfold maxLen; omega) HD.out).mono ?_; rintro e w2 ⟨rfl, hq⟩; have hB2 := hB.more (below_self hq); clear hq hB)
          | (at_builtin; refine wpList_app byteT rfl _ _ rfl _ l rfl (hB2.alloc _) _ [c] 1 _ rfl rfl (by omega) rfl (heap_alloc_new _ _) (by omega) ?_; intro v' w3 hbuf'))
        go_roundw
        case rel =>
          refine ⟨r.extract n r.size, l ++ [c], rfl, by simp [ByteArray.size_extract]; omega, hbuf', Lib.hid ?_⟩
          rw [HST.out.1, extract_list, List.take_of_length_le (by simp)]
        case measure => simp [lenOf, ByteArray.size_extract]; omega
    · have t1 := isEmpty_yes r (by omega)
      have HR : Hid (r.data.toList = []) := Lib.hid (List.eq_nil_of_length_eq_zero (by simp only [Array.length_toList, ByteArray.size_data]; omega))
      have hconv := hB.text byteT Tryz.underlying9
      go_wp2
      go_ret2
      refine ⟨.inl ⟨l, ?_, rfl⟩, hB.bel⟩
      rw [HE.out, HR.out]
      rfl
end Go.Proofs.YtmmpalnalogfnaaGreatDoor

/- strings.Builder's WriteByte and WriteString at this translation (the shelf's contracts for them do not lie here: one branch of copyCheck is refused by the loader). The walks follow the shelf's own. -/
namespace Go.Proofs.YtmmpalnalogfnaaGreatDoor
open Go.RowKit
set_option linter.unusedSimpArgs false
set_option linter.unusedVariables false

theorem builderSize : (Tryz.prog.info? 144).map (·.size) = some 2 := by kernel_rfl
theorem builderLies : liesAt Tryz.prog Tryz.prog.depth 144 (2 / Tryz.prog.cellsOf 144) 0 144 1 = true := by kernel_rfl
theorem builderByte : (Tryz.prog.info? 5).map (fun i => (i.zero, i.size, i.bytes)) = some (some (.int .u8 0), 1, 1) := by kernel_rfl
theorem builderNe : 144 ≠ 5 := by decide

set_option maxHeartbeats 1000000 in
set_option maxRecDepth 100000 in
theorem builder_used (b : Nat) (w : World) (h0 : w.cell? ⟨b, 0, none⟩ = some (.pointer (some ⟨b, 0, none⟩))) :
    Calls Tryz.prog 155 #[.pointer (some ⟨b, 0, none⟩)] w fun e w' => e = .returned (.tuple #[]) ∧ w' = w := by
  obtain ⟨j, hj, _⟩ := Option.map_eq_some_iff.1 builderSize
  go_enter Tryz.func155, Tryz.ntmps155
  go_wp2
  rw [Lib.run_neq_ptr_same w _ Tryz.underlying141 hj]
  go_wp2
  go_end0
  exact ⟨rfl, rfl⟩

set_option maxHeartbeats 1000000 in
set_option maxRecDepth 100000 in
theorem builder_fresh (b : Nat) (w : World) (h0 : w.cell? ⟨b, 0, none⟩ = some (.pointer none)) (hsh : w.shape? b = some (144, 2)) (hfz : w.frozen? ⟨b, 0, none⟩ = false) :
    Calls Tryz.prog 155 #[.pointer (some ⟨b, 0, none⟩)] w fun e w' => e = .returned (.tuple #[]) ∧ w' = w.setCell ⟨b, 0, none⟩ (.pointer (some ⟨b, 0, none⟩)) := by
  obtain ⟨j, hj, hjs⟩ := Option.map_eq_some_iff.1 builderSize
  go_enter Tryz.func155, Tryz.ntmps155
  go_wp2
  rw [Lib.run_to_unsafe w ⟨b, 0, none⟩ Tryz.underlying141 Tryz.underlying231 hj (by rw [hjs]; decide) hsh (Nat.zero_lt_succ 1)]
  simp only [Result.andThen]
  rw [Oper.upon_value]
  go_wp2
  rw [run_callFunc_extern Tryz.func205 (by kernel_rfl) (by kernel_rfl) (by kernel_rfl) (e := Extern.AbiNoEscape.same) (by kernel_rfl)]
  rw [Lib.run_noEscape]
  simp only [Result.andThen]
  rw [Oper.upon_value]
  go_wp2
  rw [Lib.run_from_unsafe w ⟨b, 0, none⟩ Tryz.underlying231 Tryz.underlying141 hj hsh builderLies]
  simp only [Result.andThen]
  rw [Oper.upon_value]
  go_wp2
  go_end0
  exact ⟨rfl, rfl⟩

theorem builder_check (B b : Nat) (bs : List Value) (w : World) (h : Lib.IsBuilder 144 5 B b bs w) :
    Calls Tryz.prog 155 #[.pointer (some ⟨b, 0, none⟩)] w fun e w' => e = .returned (.tuple #[]) ∧ (Lib.BuilderAt 144 5 B b (.pointer (some ⟨b, 0, none⟩)) bs w' ∧ Below B w w') := by
  rcases h with h | h
  · refine (builder_fresh b w h.cell0 h.shape h.frozen0).mono ?_
    rintro e w' ⟨rfl, rfl⟩
    exact ⟨rfl, h.used _, (Below.refl B w).setCell (p := ⟨b, 0, none⟩) h.1 _⟩
  · refine (builder_used b w h.cell0).mono ?_
    rintro e w' ⟨rfl, rfl⟩
    exact ⟨rfl, h, Below.refl B _⟩

set_option maxHeartbeats 2000000 in
set_option maxRecDepth 100000 in
theorem builder_byte (B b : Nat) (bs : List Value) (c : Int) (w : World) (h : Lib.IsBuilder 144 5 B b bs w) (hlen : bs.length + 1 ≤ 140737488355328) (hBw : B ≤ w.heap.size) :
    Calls Tryz.prog 98 #[.pointer (some ⟨b, 0, none⟩), .int .u8 c] w fun e w' => e = .returned .nilIface ∧ (Lib.BuilderAt 144 5 B b (.pointer (some ⟨b, 0, none⟩)) (bs ++ [.int .u8 c]) w' ∧ Below B w w') := by
  obtain ⟨i0, hi, hz0, hz1, hz2⟩ := info_parts builderByte
  have HI := Lib.hid hi
  have HZ0 := Lib.hid hz0
  have HZ1 := Lib.hid hz1
  have HZ2 := Lib.hid hz2
  clear hi hz0 hz1 hz2
  go_enter Tryz.func98, Tryz.ntmps98
  go_wp2_with (go_at_call 155; refine (builder_check B b bs _ h).mono ?_)
  rintro e w1 ⟨rfl, h1, hb1⟩
  obtain ⟨hB, v, hbk, hown, hne⟩ := h1
  have c0 : w1.cell? ⟨b, 0, none⟩ = some (.pointer (some ⟨b, 0, none⟩)) := by rw [Lib.cell_of_heap hbk]; rfl
  have c1 : w1.cell? ⟨b, 1, none⟩ = some v := by rw [Lib.cell_of_heap hbk]; rfl
  go_wp2_with (at_builtin; refine wpList_append_own _ rfl _ _ 142 rfl B 5 i0 (.int .u8 0) 1 1 Tryz.underlying142 HI.out HZ0.out HZ1.out HZ2.out rfl (by decide) _ _ _ rfl (hown.alloc _) ⟨w1.heap.size, 0, none⟩ 1 1 [.int .u8 c] rfl rfl ?c1 ?c2 ?c3 ?c4 ?c5 ?_)
  case c1 =>
    intro j u hj
    match j, hj with
    | 0, hj => simp at hj; subst hj; simp [Addr.add]
  case c2 => intro u hu; simp at hu; subst hu; rfl
  case c3 => unfold maxLen; omega
  case c4 => omega
  case c5 => have := hb1.size; simp; omega
  intro v' w2 hown' hgrow _
  have hlt : b < w1.heap.size := by
    rcases Nat.lt_or_ge b w1.heap.size with h' | h'
    · exact h'
    · simp [Array.getElem?_eq_none h'] at hbk
  have hb2 : w2.heap[b]? = some (.cells #[.pointer (some ⟨b, 0, none⟩), v] 144 (0, 0)) := by
    rw [hgrow.block b (by simp; omega) (fun e => hne e.symm), Lib.alloc_old w1 _ b hlt]
    exact hbk
  have d0 : w2.cell? ⟨b, 0, none⟩ = some (.pointer (some ⟨b, 0, none⟩)) := by rw [Lib.cell_of_heap hb2]; rfl
  have d1 : w2.cell? ⟨b, 1, none⟩ = some v := by rw [Lib.cell_of_heap hb2]; rfl
  have f1 : w2.frozen? ⟨b, 1, none⟩ = false := Lib.frozen_of_heap hb2 1
  obtain ⟨g, cap, rfl⟩ : ∃ g cap, v' = .slice (some ⟨g, 0, none⟩) (bs.length + 1) cap := by
    rcases hown'.2 with ⟨_, h0⟩ | ⟨g, cap, cur, hv, _⟩
    · omega
    · exact ⟨g, cap, hv⟩
  go_wp2
  go_ret
  refine ⟨rfl, ?_, ?_⟩
  · exact Lib.BuilderAt.put (T := 144) (e := 5) hB hb2 (bs' := bs ++ [.int .u8 c]) (by simpa using hown') builderNe
  · exact ((hb1.alloc (by have := hb1.size; omega) _).grown hgrow (by have := hb1.size; simp; omega) (fun k hk => (hown.lt k hk).1)).setCell (p := ⟨b, 1, none⟩) hB _

set_option maxHeartbeats 2000000 in
set_option maxRecDepth 100000 in
theorem builder_string (B b : Nat) (bs : List Value) (s : ByteArray) (w : World) (h : Lib.IsBuilder 144 5 B b bs w) (hlen : bs.length + s.size ≤ 140737488355328) (hBw : B ≤ w.heap.size) :
    Calls Tryz.prog 100 #[.pointer (some ⟨b, 0, none⟩), .string s] w fun e w' => e = .returned (.tuple #[.int .i64 s.size, .nilIface]) ∧ (Lib.BuilderAt 144 5 B b (.pointer (some ⟨b, 0, none⟩)) (bs ++ Lib.strCells s) w' ∧ Below B w w') := by
  obtain ⟨i0, hi, hz0, hz1, hz2⟩ := info_parts builderByte
  have HI := Lib.hid hi
  have HZ0 := Lib.hid hz0
  have HZ1 := Lib.hid hz1
  have HZ2 := Lib.hid hz2
  clear hi hz0 hz1 hz2
  go_enter Tryz.func100, Tryz.ntmps100
  go_wp2_with (go_at_call 155; refine (builder_check B b bs _ h).mono ?_)
  rintro e w1 ⟨rfl, h1, hb1⟩
  obtain ⟨hB, v, hbk, hown, hne⟩ := h1
  have c0 : w1.cell? ⟨b, 0, none⟩ = some (.pointer (some ⟨b, 0, none⟩)) := by rw [Lib.cell_of_heap hbk]; rfl
  have c1 : w1.cell? ⟨b, 1, none⟩ = some v := by rw [Lib.cell_of_heap hbk]; rfl
  go_wp2_with (at_builtin; refine Lib.wpList_append_own_string _ rfl _ _ 142 9 rfl B 5 i0 Tryz.underlying142 Tryz.underlying9 HI.out HZ0.out HZ1.out HZ2.out _ _ _ rfl hown s rfl ?c3 ?c4 ?c5 ?_)
  case c3 => unfold maxLen; omega
  case c4 => omega
  case c5 => have := hb1.size; omega
  intro v' w2 hown' hgrow _
  have hlt : b < w1.heap.size := by
    rcases Nat.lt_or_ge b w1.heap.size with h' | h'
    · exact h'
    · simp [Array.getElem?_eq_none h'] at hbk
  have hb2 : w2.heap[b]? = some (.cells #[.pointer (some ⟨b, 0, none⟩), v] 144 (0, 0)) := by
    rw [hgrow.block b hlt (fun e => hne e.symm)]
    exact hbk
  have d0 : w2.cell? ⟨b, 0, none⟩ = some (.pointer (some ⟨b, 0, none⟩)) := by rw [Lib.cell_of_heap hb2]; rfl
  have d1 : w2.cell? ⟨b, 1, none⟩ = some v := by rw [Lib.cell_of_heap hb2]; rfl
  have f1 : w2.frozen? ⟨b, 1, none⟩ = false := Lib.frozen_of_heap hb2 1
  obtain ⟨ao, n', cap, rfl⟩ : ∃ ao n' cap, v' = .slice ao n' cap := by
    rcases hown'.2 with ⟨hv, _⟩ | ⟨g, cap, cur, hv, _⟩
    · exact ⟨_, _, _, hv⟩
    · exact ⟨_, _, _, hv⟩
  go_wp2
  go_ret2
  refine ⟨rfl, ?_, ?_⟩
  · exact Lib.BuilderAt.put (T := 144) (e := 5) hB hb2 (bs' := bs ++ Lib.strCells s) (by simpa [Lib.strCells_length] using hown') builderNe
  · exact (hb1.grown hgrow (by have := hb1.size; omega) (fun k hk => (hown.lt k hk).1)).setCell (p := ⟨b, 1, none⟩) hB _
theorem builderAt_more {T e : TypeId} {B b : Nat} {p : Value} {bs : List Value} {w w' : World} (h : Lib.BuilderAt T e B b p bs w) (hb : Below w.heap.size w w') : Lib.BuilderAt T e B b p bs w' := by
  have hlt := h.lt
  obtain ⟨hB, v, hk, hown, hne⟩ := h
  exact ⟨hB, v, (hb.block b hlt).trans hk, own_more hown hb, hne⟩
theorem builder_more {T e : TypeId} {B b : Nat} {bs : List Value} {w w' : World} (h : Lib.IsBuilder T e B b bs w) (hb : Below w.heap.size w w') : Lib.IsBuilder T e B b bs w' := by
  rcases h with h | h
  · exact .inl (builderAt_more h hb)
  · exact .inr (builderAt_more h hb)
end Go.Proofs.YtmmpalnalogfnaaGreatDoor

/- Walks of isPlain, word, Join. -/
namespace Go.Proofs.YtmmpalnalogfnaaGreatDoor
open Go.RowKit
set_option linter.unusedSimpArgs false
set_option linter.unusedVariables false

/-- a rune that no plain word has -/
def mark (r : Nat) : Bool := decide (r ≤ 32 ∨ 126 < r ∨ r = 34)
theorem decode_big (s : ByteArray) (pos : Nat) (h : pos < s.size) (hb : 128 ≤ (s[pos]).toNat) : 128 ≤ (Utf8.decode s pos).1 := by
  have e : (s.get! (pos + 0)).toNat = (s[pos]).toNat := by
    rw [Nat.add_zero]
    show (s.data[pos]!).toNat = _
    rw [getElem!_pos s.data pos (by simpa using h)]
    rfl
  unfold Utf8.decode
  simp only [e]
  rw [if_neg (by omega)]
  split
  · split
    · simp only; omega
    · decide
  · split
    · split
      · rename_i h1; simp only [Bool.and_eq_true, decide_eq_true_eq] at h1; simp only; omega
      · decide
    · split
      · split
        · rename_i h1; simp only [Bool.and_eq_true, decide_eq_true_eq] at h1; simp only; omega
        · decide
      · decide
theorem idx_mark (s : ByteArray) : ∀ (f pos : Nat), s.size ≤ pos + f → decide (0 ≤ Lib.idxFuncFrom mark true s f pos) = !((s.data.toList.drop pos).all okB)
  | 0, pos, hf => by
    rw [List.drop_eq_nil_of_le (by simpa using hf)]
    simp [Lib.idxFuncFrom]
  | f + 1, pos, hf => by
    by_cases h : pos < s.size
    · rw [bytes_drop s pos h, List.all_cons]
      unfold Lib.idxFuncFrom
      rw [if_pos h]
      by_cases hb : (s[pos]).toNat < 128
      · rw [decode_ascii s pos h hb]
        simp only
        cases ho : okB s[pos]
        · have hm : mark (s[pos]).toNat = true := by simp [okB] at ho; simp [mark]; omega
          rw [if_pos hm]
          simp
        · have hm : mark (s[pos]).toNat = false := by simp [okB] at ho; simp [mark]; omega
          rw [hm, if_neg (by simp), idx_mark s f (pos + 1) (by omega)]
          rfl
      · have hd := decode_big s pos h (by omega)
        have hm : mark (Utf8.decode s pos).1 = true := by simp [mark]; omega
        have ho : okB s[pos] = false := by simp [okB]; omega
        rw [hm, if_pos rfl, ho]
        simp
    · rw [Lib.idxFuncFrom_end _ _ _ _ _ h, List.drop_eq_nil_of_le (by simpa using h)]
      simp

set_option maxHeartbeats 400000 in
theorem needsMarks_any (r : Nat) (w : World) : Calls Tryz.prog 157 #[.int .i32 r] w fun e w' => e = .returned (.bool (mark r)) ∧ w = w' := by
  by_cases h1 : (r : Int) ≤ 32
  · go_enter Tryz.func157, Tryz.ntmps157
    go_wp2
    go_ret
    exact ⟨ret_bool (by simp [mark]; omega), rfl⟩
  · by_cases h2 : 126 < (r : Int)
    · go_enter Tryz.func157, Tryz.ntmps157
      go_wp2
      go_ret
      exact ⟨ret_bool (by simp [mark]; omega), rfl⟩
    · by_cases h3 : r = 34
      · have h3' : ((r : Int) == 34) = true := by simp; omega
        have H3 := Lib.hid h3
        clear h3
        go_enter Tryz.func157, Tryz.ntmps157
        go_wp2
        go_ret
        exact ⟨ret_bool (by simp [mark, H3.out]), rfl⟩
      · have h3' : ((r : Int) == 34) = false := by simp; omega
        have H3 := Lib.hid h3
        clear h3
        go_enter Tryz.func157, Tryz.ntmps157
        go_wp2
        go_ret
        exact ⟨ret_bool (by have := H3.out; simp [mark]; omega), rfl⟩
theorem markAt (w : World) : PredAt Tryz.prog 157 #[] encR mark w := fun W x _ =>
  (needsMarks_any x W).mono fun e w' ⟨h1, h2⟩ => ⟨h1, 0, h2.symm⟩
theorem containsFunc_any (s : ByteArray) (w : World) :
    Calls Tryz.prog 156 #[.string s, .func (.func 157) #[] #[]] w fun e w' => e = .returned (.bool (!(s.data.toList.all okB))) ∧ Below w.heap.size w w' := by
  refine (Tryz.strings_ContainsFunc 157 #[] (enters_of Tryz.func157 (by kernel_rfl) rfl) mark s w (markAt w)).mono ?_
  rintro e w' ⟨rfl, hb⟩
  exact ⟨ret_bool (idx_mark s s.size 0 (by omega)), hb⟩

set_option maxHeartbeats 400000 in
theorem isPlain_any (s : ByteArray) (w : World) :
    Calls Tryz.prog 99 #[.string s] w fun e w' => e = .returned (.bool (plainL s.data.toList)) ∧ Below w.heap.size w w' := by
  by_cases h0 : 0 < s.size
  · have t1 := isEmpty_no s h0
    have HL : Hid (plainL s.data.toList = s.data.toList.all okB) := Lib.hid (by
      rw [plainL, ← ByteArray.toList_eq, t1]; rfl)
    cases ha : s.data.toList.all okB
    · have HC := containsFunc_any s w
      rw [ha] at HC
      have HH := Lib.hid HC
      clear HC
      have HA := Lib.hid ha
      clear ha
      go_enter Tryz.func99, Tryz.ntmps99
      go_wp2_with (go_at_call 156; refine HH.out.mono ?_; rintro e w1 ⟨rfl, hb⟩)
      go_ret
      exact ⟨ret_bool (by rw [HL.out, HA.out]), hb⟩
    · have HC := containsFunc_any s w
      rw [ha] at HC
      have HH := Lib.hid HC
      clear HC
      have HA := Lib.hid ha
      clear ha
      go_enter Tryz.func99, Tryz.ntmps99
      go_wp2_with (go_at_call 156; refine HH.out.mono ?_; rintro e w1 ⟨rfl, hb⟩)
      go_ret
      exact ⟨ret_bool (by rw [HL.out, HA.out]), hb⟩
  · have t1 := isEmpty_yes s (by omega)
    have HL : Hid (plainL s.data.toList = false) := Lib.hid (by
      rw [plainL, ← ByteArray.toList_eq, t1]; rfl)
    go_enter Tryz.func99, Tryz.ntmps99
    go_wp2
    go_ret
    exact ⟨ret_bool (by rw [HL.out]), Below.refl _ _⟩

theorem isPlain_eq (s : ByteArray) (b : Bool) (w : World) (h : plainL s.data.toList = b) :
    Calls Tryz.prog 99 #[.string s] w fun e w' => e = .returned (.bool b) ∧ Below w.heap.size w w' := by
  subst h; exact isPlain_any s w

def WordPost (s : ByteArray) (e : Ending) : Prop :=
  (∃ t, s.data.toList = encW t ∧ e = .returned (.tuple #[.string ⟨t.toArray⟩, .bool true])) ∨
  ((∀ t, s.data.toList ≠ encW t) ∧ e = .returned (.tuple #[.string ⟨#[]⟩, .bool false]))
theorem unquote_yes (s : ByteArray) (t : List UInt8) (w : World) (hs : s.size ≤ 40000) (h : s.data.toList = quoteL t) :
    Calls Tryz.prog 162 #[.string s] w fun e w' => e = .returned (.tuple #[.string ⟨t.toArray⟩, .int .i64 0]) ∧ Below w.heap.size w w' := by
  refine (unquote_any s w hs).mono ?_
  rintro e w' ⟨⟨t', h', rfl⟩ | ⟨h', _⟩, hb⟩
  · rw [quoteL_inj t t' (h'.symm.trans h)]
    exact ⟨rfl, hb⟩
  · exact absurd h (h' t)
theorem unquote_no (s : ByteArray) (w : World) (hs : s.size ≤ 40000) (h : ∀ t, s.data.toList ≠ quoteL t) :
    Calls Tryz.prog 162 #[.string s] w fun e w' => e = .returned (.tuple #[.string ⟨#[]⟩, .int .i64 3]) ∧ Below w.heap.size w w' := by
  refine (unquote_any s w hs).mono ?_
  rintro e w' ⟨⟨t', h', _⟩ | ⟨_, rfl⟩, hb⟩
  · exact absurd h' (h t')
  · exact ⟨rfl, hb⟩
theorem encW_plain (l : List UInt8) (h : plainL l = true) : encW l = l := by rw [encW, if_pos h]
theorem encW_quote (l : List UInt8) (h : plainL l = false) : encW l = quoteL l := by rw [encW, if_neg (by simp [h])]
theorem encW_none (s : List UInt8) (h : plainL s = false) (hq : ∀ t, plainL t = false → s ≠ quoteL t) : ∀ t, s ≠ encW t := by
  intro t ht
  cases hp : plainL t
  · rw [encW_quote t hp] at ht; exact hq t hp ht
  · rw [encW_plain t hp] at ht; rw [ht, hp] at h; cases h

set_option maxHeartbeats 400000 in
theorem word_any (s : ByteArray) (w : World) (hs : s.size ≤ 40000) :
    Calls Tryz.prog 112 #[.string s] w fun e w' => WordPost s e ∧ Below w.heap.size w w' := by
  cases hp : plainL s.data.toList
  · have HP := Lib.hid hp
    by_cases hq : ∃ t, s.data.toList = quoteL t
    · obtain ⟨t, ht⟩ := hq
      have HT := Lib.hid ht
      clear ht
      cases hpt : plainL t
      · have HT2 : Hid (plainL (⟨t.toArray⟩ : ByteArray).data.toList = false) := Lib.hid (by simpa using hpt)
        clear hp
        go_enter Tryz.func112, Tryz.ntmps112
        go_wp2_with (go_at_call 99; refine (isPlain_eq _ _ _ HP.out).mono ?_; rintro e w1 ⟨rfl, hb1⟩)
        go_wp2_with (go_at_call 162; refine (unquote_yes _ t _ hs HT.out).mono ?_; rintro e w2 ⟨rfl, hb2⟩)
        go_wp2_with (go_at_call 99; refine (isPlain_eq _ _ _ HT2.out).mono ?_; rintro e w3 ⟨rfl, hb3⟩)
        go_ret2
        exact ⟨.inl ⟨t, by rw [HT.out, encW_quote t hpt], rfl⟩, (hb1.trans (hb2.mono hb1.size)).trans (hb3.mono (Nat.le_trans hb1.size hb2.size))⟩
      · have HN : Hid (∀ t', s.data.toList ≠ encW t') := Lib.hid (encW_none _ hp fun t' h' e => by
          have := quoteL_inj t t' (e.symm.trans HT.out)
          rw [this, hpt] at h'; cases h')
        have HT2 : Hid (plainL (⟨t.toArray⟩ : ByteArray).data.toList = true) := Lib.hid (by simpa using hpt)
        clear hp
        go_enter Tryz.func112, Tryz.ntmps112
        go_wp2_with (go_at_call 99; refine (isPlain_eq _ _ _ HP.out).mono ?_; rintro e w1 ⟨rfl, hb1⟩)
        go_wp2_with (go_at_call 162; refine (unquote_yes _ t _ hs HT.out).mono ?_; rintro e w2 ⟨rfl, hb2⟩)
        go_wp2_with (go_at_call 99; refine (isPlain_eq _ _ _ HT2.out).mono ?_; rintro e w3 ⟨rfl, hb3⟩)
        go_ret2
        exact ⟨.inr ⟨HN.out, rfl⟩, (hb1.trans (hb2.mono hb1.size)).trans (hb3.mono (Nat.le_trans hb1.size hb2.size))⟩
    · have HQ : Hid (∀ t, s.data.toList ≠ quoteL t) := Lib.hid fun t ht => hq ⟨t, ht⟩
      have HN : Hid (∀ t', s.data.toList ≠ encW t') := Lib.hid (encW_none _ hp fun t' _ e => HQ.out t' e)
      clear hq hp
      go_enter Tryz.func112, Tryz.ntmps112
      go_wp2_with (go_at_call 99; refine (isPlain_eq _ _ _ HP.out).mono ?_; rintro e w1 ⟨rfl, hb1⟩)
      go_wp2_with (go_at_call 162; refine (unquote_no _ _ hs HQ.out).mono ?_; rintro e w2 ⟨rfl, hb2⟩)
      go_ret2
      exact ⟨.inr ⟨HN.out, rfl⟩, hb1.trans (hb2.mono hb1.size)⟩
  · have HP := Lib.hid hp
    clear hp
    go_enter Tryz.func112, Tryz.ntmps112
    go_wp2_with (go_at_call 99; refine (isPlain_eq _ _ _ HP.out).mono ?_; rintro e w1 ⟨rfl, hb1⟩)
    go_ret2
    exact ⟨.inl ⟨s.data.toList, by rw [encW_plain _ HP.out], by rw [Lib.mk_data]; rfl⟩, hb1⟩

theorem strCells_eq (s : ByteArray) : Lib.strCells s = Lib.byteCells s.data.toList := by
  simp [Lib.strCells, Lib.byteCells]
def bytesOf (ss : List ByteArray) : List (List UInt8) := ss.map fun s => s.data.toList

set_option maxRecDepth 100000 in
set_option maxHeartbeats 2000000 in
theorem join_any (v : Value) (ss : List ByteArray) (w : World) (hv : StrL w v ss) (hn : ss.length ≤ 2000) (hsum : ((bytesOf ss).map List.length).sum ≤ 2000) :
    Calls Tryz.prog 37 #[v] w fun e w' => e = .returned (.string ⟨(joinL (bytesOf ss)).toArray⟩) ∧ Below w.heap.size w w' := by
  have hv0 := hv
  obtain ⟨A, c, rfl, hcell⟩ := hv
  go_enter Tryz.func37, Tryz.ntmps37
  go_wp2
  have hI0 := Lib.fresh_isBuilder 144 5 w
  have HB0 : Below w.heap.size w (w.alloc (.cells #[.pointer none, .slice none 0 0] 144)) := (Below.refl _ _).alloc (Nat.le_refl _) _
  go_loopw [8] (fun i wr => ∃ k : Nat, k ≤ ss.length ∧ i = .int .i64 k ∧ Lib.IsBuilder 144 5 w.heap.size w.heap.size (Lib.byteCells (joinL ((bytesOf ss).take k))) wr ∧ Below w.heap.size w wr) (fun i _ => ss.length - (intOf i).toNat)
  case atStart => exact ⟨0, Nat.zero_le _, rfl, hI0, HB0⟩
  case round =>
    obtain ⟨k, hk, rfl, hI, hB⟩ := hrel
    have hlen : (Lib.byteCells (joinL ((bytesOf ss).take k))).length ≤ 20000 := by
      have h1 := joinL_le ((bytesOf ss).take k)
      have h2 := sum_take_le (bytesOf ss) k
      have h3 : ((bytesOf ss).take k).length ≤ 2000 := by simp [bytesOf]; omega
      rw [Lib.byteCells_length]
      omega
    by_cases hlt : k < ss.length
    · obtain ⟨b, o, rfl, hb, hc⟩ : ∃ b o, A = some ⟨b, o, none⟩ ∧ b < w.heap.size ∧ ∀ i (h : i < ss.length), w.cell? ⟨b, o + i, none⟩ = some (.string ss[i]) := by
        rcases hcell with h | h
        · rw [h] at hlt; simp at hlt
        · exact h
      have hck : wr.cell? ⟨b, o + k, none⟩ = some (.string ss[k]) := (hB.cell (p := ⟨b, o + k, none⟩) hb).trans (hc k hlt)
      clear hc
      have hsk : (ss[k]).data.toList.length ≤ 2000 := Nat.le_trans (len_le_sum (bytesOf ss) _ (by simp [bytesOf]; exact ⟨ss[k], List.getElem_mem hlt, rfl⟩)) hsum
      have hsq : (ss[k]).size ≤ 40000 := by have : (ss[k]).data.toList.length = (ss[k]).size := by simp
                                            omega
      have htk : (bytesOf ss).take (k + 1) = (bytesOf ss).take k ++ [(ss[k]).data.toList] := by
        rw [List.take_succ_eq_append_getElem (by simpa [bytesOf] using hlt)]; simp [bytesOf]
      have hsk2 : (ss[k]).size ≤ 2000 := by have : (ss[k]).data.toList.length = (ss[k]).size := by simp
                                            omega
      clear hsk hcell hsum
      have hq2 : (Lib.byteCells (joinL ((bytesOf ss).take k))).length + 1 + (⟨(quoteL (ss[k]).data.toList).toArray⟩ : ByteArray).size ≤ 140737488355328 := by
        have h1 := flatMap_qb_le (ss[k]).data.toList
        have h2 : (⟨(quoteL (ss[k]).data.toList).toArray⟩ : ByteArray).size = (quoteL (ss[k]).data.toList).length := by simp [ByteArray.size]
        rw [h2]
        simp only [quoteL, List.length_cons, List.length_append, List.length_nil]
        have h3 : (ss[k]).data.toList.length = (ss[k]).size := by simp
        omega
      have hq3 : (Lib.byteCells (joinL ((bytesOf ss).take k))).length + (⟨(quoteL (ss[k]).data.toList).toArray⟩ : ByteArray).size ≤ 140737488355328 := by omega
      by_cases hk0 : k = 0
      · have HT := Lib.hid htk
        have h0 : ¬ 0 < (k : Int) := by omega
        have hz : joinL ((bytesOf ss).take k) = [] := by rw [hk0]; rfl
        have HZ := Lib.hid hz
        have HN : Hid ((bytesOf ss).take k = []) := Lib.hid (by rw [hk0]; rfl)
        clear htk hk0 hz
        cases hp : plainL (ss[k]).data.toList
        · have HP := Lib.hid hp
          clear hp
          have HJ : Hid (joinL ((bytesOf ss).take (k + 1)) = joinL ((bytesOf ss).take k) ++ quoteL (ss[k]).data.toList) := Lib.hid (by rw [HT.out, HN.out]; simp [joinL, encW_quote _ HP.out])
          clear HT HN
          go_wp2_with (go_at_call 99; refine (isPlain_eq _ _ _ HP.out).mono ?_; rintro e w2 ⟨rfl, hb2⟩; have hI2 := builder_more hI hb2; have hB2 := hB.trans (hb2.mono hB.size); refine Hid.out ?_)
          refine Lib.hid ?_
          go_wp2_with (go_at_call 101; refine (quote_any _ _ hsq).mono ?_; rintro e w3 ⟨rfl, hb3⟩; have hI3 := builder_more hI2 hb3; have hB3 := hB2.trans (hb3.mono hB2.size); refine Hid.out ?_)
          refine Lib.hid ?_
          go_wp2_with (go_at_call 100; refine (builder_string w.heap.size w.heap.size _ _ _ hI3 (by first | omega | exact hq3 | (simp only [List.length_append, List.length_cons, List.length_nil]; omega) | (simp only [List.length_append, List.length_cons, List.length_nil]; exact hq2)) hB3.size).mono ?_; rintro e w4 ⟨rfl, hI4', hb4⟩; have hI4 := builder_more (w' := w4) (.inr hI4') (Below.refl _ _); have hB4 := hB3.trans hb4)
          go_roundw
          case rel => exact ⟨k + 1, by omega, by go_num, by rw [HJ.out]; simpa [strCells_eq, Lib.byteCells] using hI4, hB4⟩
          case measure => simp [intOf]; omega
        · have HP := Lib.hid hp
          clear hp
          have HJ : Hid (joinL ((bytesOf ss).take (k + 1)) = joinL ((bytesOf ss).take k) ++ (ss[k]).data.toList) := Lib.hid (by rw [HT.out, HN.out]; simp [joinL, encW_plain _ HP.out])
          clear HT HN
          go_wp2_with (go_at_call 99; refine (isPlain_eq _ _ _ HP.out).mono ?_; rintro e w2 ⟨rfl, hb2⟩; have hI2 := builder_more hI hb2; have hB2 := hB.trans (hb2.mono hB.size); refine Hid.out ?_)
          refine Lib.hid ?_
          go_wp2_with (go_at_call 100; refine (builder_string w.heap.size w.heap.size _ _ _ hI2 (by omega) hB2.size).mono ?_; rintro e w4 ⟨rfl, hI4', hb4⟩; have hI4 := builder_more (w' := w4) (.inr hI4') (Below.refl _ _); have hB4 := hB2.trans hb4)
          go_roundw
          case rel => exact ⟨k + 1, by omega, by go_num, by rw [HJ.out]; simpa [strCells_eq, Lib.byteCells] using hI4, hB4⟩
          case measure => simp [intOf]; omega
      · have HT := Lib.hid htk
        have h0 : 0 < (k : Int) := by omega
        have HN : Hid ((bytesOf ss).take k ≠ []) := Lib.hid (by intro e; have h1 : ((bytesOf ss).take k).length = k := (by simp [bytesOf]; omega); rw [e] at h1; exact hk0 h1.symm)
        clear htk hk0
        cases hp : plainL (ss[k]).data.toList
        · have HP := Lib.hid hp
          clear hp
          have HJ : Hid (joinL ((bytesOf ss).take (k + 1)) = joinL ((bytesOf ss).take k) ++ [32] ++ quoteL (ss[k]).data.toList) := Lib.hid (by rw [HT.out, joinL_snoc _ _ HN.out, encW_quote _ HP.out]; simp)
          clear HT HN
          go_wp2_with (go_at_call 98; refine (builder_byte w.heap.size w.heap.size _ 32 _ hI (by omega) hB.size).mono ?_; rintro e w1 ⟨rfl, hI1', hb1⟩; have hI1 := builder_more (w' := w1) (.inr hI1') (Below.refl _ _); have hB1 := hB.trans hb1; refine Hid.out ?_)
          refine Lib.hid ?_
          go_wp2_with (go_at_call 99; refine (isPlain_eq _ _ _ HP.out).mono ?_; rintro e w2 ⟨rfl, hb2⟩; have hI2 := builder_more hI1 hb2; have hB2 := hB1.trans (hb2.mono hB1.size); refine Hid.out ?_)
          refine Lib.hid ?_
          go_wp2_with (go_at_call 101; refine (quote_any _ _ hsq).mono ?_; rintro e w3 ⟨rfl, hb3⟩; have hI3 := builder_more hI2 hb3; have hB3 := hB2.trans (hb3.mono hB2.size); refine Hid.out ?_)
          refine Lib.hid ?_
          go_wp2_with (go_at_call 100; refine (builder_string w.heap.size w.heap.size _ _ _ hI3 (by simp only [List.length_append, List.length_cons, List.length_nil]; exact hq2) hB3.size).mono ?_; rintro e w4 ⟨rfl, hI4', hb4⟩; have hI4 := builder_more (w' := w4) (.inr hI4') (Below.refl _ _); have hB4 := hB3.trans hb4)
          go_roundw
          case rel => exact ⟨k + 1, by omega, by go_num, by rw [HJ.out]; simpa [strCells_eq, Lib.byteCells] using hI4, hB4⟩
          case measure => simp [intOf]; omega
        · have HP := Lib.hid hp
          clear hp
          have HJ : Hid (joinL ((bytesOf ss).take (k + 1)) = joinL ((bytesOf ss).take k) ++ [32] ++ (ss[k]).data.toList) := Lib.hid (by rw [HT.out, joinL_snoc _ _ HN.out, encW_plain _ HP.out]; simp)
          clear HT HN
          go_wp2_with (go_at_call 98; refine (builder_byte w.heap.size w.heap.size _ 32 _ hI (by omega) hB.size).mono ?_; rintro e w1 ⟨rfl, hI1', hb1⟩; have hI1 := builder_more (w' := w1) (.inr hI1') (Below.refl _ _); have hB1 := hB.trans hb1; refine Hid.out ?_)
          refine Lib.hid ?_
          go_wp2_with (go_at_call 99; refine (isPlain_eq _ _ _ HP.out).mono ?_; rintro e w2 ⟨rfl, hb2⟩; have hI2 := builder_more hI1 hb2; have hB2 := hB1.trans (hb2.mono hB1.size); refine Hid.out ?_)
          refine Lib.hid ?_
          go_wp2_with (go_at_call 100; refine (builder_string w.heap.size w.heap.size _ _ _ hI2 (by simp only [List.length_append, List.length_cons, List.length_nil]; omega) hB2.size).mono ?_; rintro e w4 ⟨rfl, hI4', hb4⟩; have hI4 := builder_more (w' := w4) (.inr hI4') (Below.refl _ _); have hB4 := hB2.trans hb4)
          go_roundw
          case rel => exact ⟨k + 1, by omega, by go_num, by rw [HJ.out]; simpa [strCells_eq, Lib.byteCells] using hI4, hB4⟩
          case measure => simp [intOf]; omega
    · have HK : Hid ((bytesOf ss).take k = bytesOf ss) := Lib.hid (List.take_of_length_le (by simp [bytesOf]; omega))
      go_wp2_with (go_at_call 102; refine (Tryz.Builder_String_any w.heap.size w.heap.size _ _ hI hB.size).mono ?_; rintro e w4 ⟨rfl, hb4⟩)
      go_ret
      exact ⟨by rw [HK.out]; rfl, hB.trans hb4⟩
end Go.Proofs.YtmmpalnalogfnaaGreatDoor

/- Walks of Words. -/
namespace Go.Proofs.YtmmpalnalogfnaaGreatDoor
open Go.RowKit
set_option linter.unusedSimpArgs false
set_option linter.unusedVariables false

theorem decode_width (s : ByteArray) (pos : Nat) (h : pos < s.size) : 1 ≤ (Utf8.decode s pos).2 ∧ pos + (Utf8.decode s pos).2 ≤ s.size := by
  unfold Utf8.decode
  simp only
  split
  · exact ⟨by simp, by simp only; omega⟩
  · split
    · rename_i h1
      simp only [Bool.and_eq_true, decide_eq_true_eq] at h1
      split <;> simp only <;> omega
    · split
      · rename_i h1
        simp only [Bool.and_eq_true, decide_eq_true_eq] at h1
        split <;> simp only <;> omega
      · split
        · rename_i h1
          simp only [Bool.and_eq_true, decide_eq_true_eq] at h1
          split <;> simp only <;> omega
        · simp only; omega
/-- a rune of ASCII is one byte -/
theorem decode_small (s : ByteArray) (pos : Nat) (h : pos < s.size) (hr : (Utf8.decode s pos).1 < 128) : (s[pos]).toNat = (Utf8.decode s pos).1 ∧ (Utf8.decode s pos).2 = 1 := by
  by_cases hb : (s[pos]).toNat < 128
  · rw [decode_ascii s pos h hb]; exact ⟨rfl, rfl⟩
  · have := decode_big s pos h (by omega)
    omega

theorem strT : StrT Tryz.prog 81 9 := ⟨Tryz.underlying81, by kernel_rfl⟩

/-- what the range over a text has: its iterator -/
theorem iter_step (w : World) (N : Nat) (S : ByteArray) (pos p' : Nat) (hk : w.heap[N]? = some (.stringIter S pos)) :
    (w.iterAt N S p').heap[N]? = some (.stringIter S p') ∧ (w.iterAt N S p').heap.size = w.heap.size := ⟨Lib.iterAt_heap _ _ _ _ _ hk, Lib.iterAt_size _ _ _ _⟩
theorem SOwn.iterAt {e : TypeId} {B N : Nat} {w : World} {v : Value} {ss : List ByteArray} (h : SOwn e B w v ss) (hN : N < B) (S : ByteArray) (p : Nat) : SOwn e B (w.iterAt N S p) v ss :=
  ⟨ownsRow_iterAt h.own hN S p, by rw [Lib.iterAt_size]; exact h.base⟩

theorem word_yes (s : ByteArray) (t : List UInt8) (w : World) (hs : s.size ≤ 40000) (h : s.data.toList = encW t) :
    Calls Tryz.prog 112 #[.string s] w fun e w' => e = .returned (.tuple #[.string ⟨t.toArray⟩, .bool true]) ∧ Below w.heap.size w w' := by
  refine (word_any s w hs).mono ?_
  rintro e w' ⟨⟨t', h', rfl⟩ | ⟨h', _⟩, hb⟩
  · rw [encW_inj t t' (h.symm.trans h')]
    exact ⟨rfl, hb⟩
  · exact absurd h (h' t)
theorem word_no (s : ByteArray) (w : World) (hs : s.size ≤ 40000) (h : ∀ t, s.data.toList ≠ encW t) :
    Calls Tryz.prog 112 #[.string s] w fun e w' => e = .returned (.tuple #[.string ⟨#[]⟩, .bool false]) ∧ Below w.heap.size w w' := by
  refine (word_any s w hs).mono ?_
  rintro e w' ⟨⟨t', h', _⟩ | ⟨_, rfl⟩, hb⟩
  · exact absurd h' (h t')
  · exact ⟨rfl, hb⟩
theorem bytesOf_snoc (ss : List ByteArray) (t : List UInt8) : bytesOf (ss ++ [⟨t.toArray⟩]) = bytesOf ss ++ [t] := by simp [bytesOf]
/-- a piece of a line with a space behind it, cut out -/
theorem piece_eq (s S : ByteArray) (start pos : Nat) (t : List UInt8) (pre : List UInt8) (hb : S.data.toList = s.data.toList ++ [32]) (hp : pos ≤ s.size) (hst : start ≤ pos) (hc : (hlt : pos < S.size) → S[pos].toNat = 32)
    (he : S.data.toList.take start = pre) (ht : (s.extract start pos).data.toList = encW t) : S.data.toList.take (pos + 1) = pre ++ enc32 t := by
  have hls : s.data.toList.length = s.size := by simp
  have hlS : S.data.toList.length = S.size := by simp
  have hsz : S.size = s.size + 1 := by rw [← hlS, hb]; simp
  have hlt : pos < S.size := by omega
  rw [List.take_succ_eq_append_getElem (by omega)]
  have e1 : S.data.toList[pos]'(by omega) = 32 := UInt8.toNat_inj.1 (hc hlt)
  have e2 : S.data.toList.take pos = pre ++ encW t := by
    rw [← ht, extract_list, ← he]
    have e3 : S.data.toList.take pos = s.data.toList.take pos := by rw [hb, List.take_append_of_le_length (by omega)]
    have e4 : S.data.toList.take start = (s.data.toList.take pos).take start := by rw [hb, List.take_append_of_le_length (by omega), List.take_take, Nat.min_eq_left hst]
    rw [e3, e4, List.take_append_drop]
  rw [e1, e2, enc32, List.append_assoc]

set_option maxRecDepth 100000 in
set_option maxHeartbeats 4000000 in
theorem words_no (s : ByteArray) (w : World) (hs : s.size ≤ 40000) (h : ∀ l, s.data.toList ≠ joinL l) :
    Calls Tryz.prog 45 #[.string s] w fun e w' => e = .returned (.tuple #[.slice none 0 0, .int .i64 3]) ∧ Below w.heap.size w w' := by
  have h0 : 0 < s.size := by
    rcases Nat.eq_zero_or_pos s.size with h0 | h0
    · exact absurd (List.eq_nil_of_length_eq_zero (by simpa using h0)) (h [])
    · exact h0
  have t1 := isEmpty_no s h0
  have HJ := Lib.hid h
  clear h
  go_enter Tryz.func45, Tryz.ntmps45
  go_wp2
  go_step3
  go_wp2
  go_step3
  go_wp2
  generalize hS : s ++ ({ data := #[32] } : ByteArray) = S
  have hsz : S.size = s.size + 1 := by rw [← hS]; simp; rfl
  have hbl : S.data.toList = s.data.toList ++ [32] := by rw [← hS]; simp
  have HBL := Lib.hid hbl
  have HSZ := Lib.hid hsz
  have hS1 : S.size ≤ 40001 := by omega
  clear hS hbl hsz
  have hI0 : (w.iter S 0).heap[w.heap.size]? = some (.stringIter S 0) := World.iter_heap w S 0
  have hB0 : Below w.heap.size w (w.iter S 0) := (Below.refl _ _).alloc (Nat.le_refl _) _
  have hO0 : SOwn 9 (w.heap.size + 1) (w.iter S 0) (.slice none 0 0) [] := SOwn.nil (by simp [World.iter])
  go_loopw [4, 5, 6, 7] (fun v st q e wr => ∃ (pos start : Nat) (bq be : Bool) (ss : List ByteArray), pos ≤ S.size ∧ start ≤ pos ∧ ss.length ≤ pos ∧ st = .int .i64 start ∧ q = .bool bq ∧ e = .bool be ∧
      SOwn 9 (w.heap.size + 1) wr v ss ∧ wr.heap[w.heap.size]? = some (.stringIter S pos) ∧ Below w.heap.size w wr ∧ Hid (S.data.toList.take start = (bytesOf ss).flatMap enc32))
    (fun _ _ _ _ wr => S.size - wr.iterPos w.heap.size)
  case atStart => exact ⟨0, 0, false, false, [], Nat.zero_le _, Nat.le_refl _, Nat.le_refl _, rfl, rfl, rfl, hO0, hI0, hB0, Lib.hid rfl⟩
  case round =>
    obtain ⟨pos, start, bq, be, ss, hp, hst, hsl, rfl, rfl, rfl, hO, hI, hB, HE⟩ := hrel
    have hps := iterPos_of hI
    by_cases hlt : pos < S.size
    · obtain ⟨hd1, hd2⟩ := decode_width S pos hlt
      have hds := decode_small S pos hlt
      have hnext := fun ty => Lib.run_next_any_at (P := Tryz.prog) wr w.heap.size S pos ty hI hlt
      obtain ⟨r, n, hd⟩ : ∃ r n, Utf8.decode S pos = (r, n) := ⟨_, _, rfl⟩
      rw [hd] at hnext hd1 hd2 hds
      simp only at hnext hd1 hd2 hds
      obtain ⟨hI2, hz2⟩ := iter_step wr w.heap.size S pos (pos + n) hI
      have hO2 := hO.iterAt (Nat.lt_succ_self _) S (pos + n)
      have hB2 : Below w.heap.size w (wr.iterAt w.heap.size S (pos + n)) := Lib.below_iterAt hB (Nat.le_refl _) S (pos + n)
      generalize wr.iterAt w.heap.size S (pos + n) = wi at *
      have hps2 := Lib.hid (iterPos_of hI2)
      have HPS := Lib.hid hps
      have HDS := Lib.hid hds
      clear hd hds hps hO hI hB hz2
      cases be
      · by_cases h92 : r = 92
        · have t92 : ((r : Int) == 92) = true := by simp; omega
          clear h92
          go_wp2
          go_roundw
          case rel => exact ⟨pos + n, start, bq, bq, ss, hd2, by omega, by omega, rfl, rfl, rfl, hO2, hI2, hB2, HE⟩
          case measure => rw [hps2.out, HPS.out]; omega
        have t92 : ((r : Int) == 92) = false := by simp; omega
        by_cases h34 : r = 34
        · have t34 : ((r : Int) == 34) = true := by simp; omega
          clear h34 h92
          go_wp2
          go_roundw
          case rel => exact ⟨pos + n, start, !bq, false, ss, hd2, by omega, by omega, rfl, rfl, rfl, hO2, hI2, hB2, HE⟩
          case measure => rw [hps2.out, HPS.out]; omega
        have t34 : ((r : Int) == 34) = false := by simp; omega
        by_cases h32 : r = 32
        · have t32 : ((r : Int) == 32) = true := by simp; omega
          cases bq
          · have hc := HDS.out (by omega)
            obtain ⟨hc1, hc2⟩ := hc
            have hc3 : S[pos].toNat = 32 := by omega
            have hpe : pos ≤ s.size := by have := HSZ.out; omega
            have HN1 := Lib.hid hc2
            have hsx : (s.extract start pos).size ≤ 40000 := by simp [ByteArray.size_extract]; omega
            by_cases hw : ∃ t, (s.extract start pos).data.toList = encW t
            · obtain ⟨t, ht⟩ := hw
              have HT := Lib.hid ht
              have HE2 : Hid (S.data.toList.take (pos + 1) = (bytesOf (ss ++ [⟨t.toArray⟩])).flatMap enc32) := Lib.hid (by
                rw [bytesOf_snoc, List.flatMap_append, List.flatMap_singleton]
                exact piece_eq s S start pos t _ HBL.out hpe hst (fun _ => hc3) HE.out ht)
              clear h34 h92 h32 hc1 hc2 hc3 ht
              go_wp2_with (first
                | (go_at_call 112; refine (word_yes _ t _ hsx HT.out).mono ?_; rintro e w2 ⟨rfl, hb2⟩; have hO3 := hO2.more hb2; have hI3 := (hb2.block w.heap.size (by have := hO2.base; omega)).trans hI2; have hB3 := hB2.trans (hb2.mono hB2.size))
                | (at_builtin; refine wpList_sapp strT rfl _ _ rfl _ ss rfl (hO3.alloc _) _ ⟨t.toArray⟩ _ rfl (heap_alloc_new _ _) (by omega) ?_; intro v' w3 hO4 hb4))
              have hlt2 : w.heap.size < w2.heap.size := by have := hO3.base; omega
              have hI4 : w3.heap[w.heap.size]? = some (.stringIter S (pos + n)) := (hb4.block _ (by omega)).trans ((Below.heap_alloc w2 _ _ hlt2).trans hI3)
              have hB4 : Below w.heap.size w w3 := (hB3.alloc hB3.size _).trans (hb4.mono (by omega))
              have hn1 := HN1.out
              subst hn1
              go_roundw
              case rel => exact ⟨pos + 1, pos + 1, false, false, _, hd2, by omega, by simp; omega, by go_num, rfl, rfl, hO4, hI4, hB4, HE2⟩
              case measure => rw [iterPos_of hI4, HPS.out]; omega
            · have HW : Hid (∀ t, (s.extract start pos).data.toList ≠ encW t) := Lib.hid fun t ht => hw ⟨t, ht⟩
              clear h34 h92 h32 hc1 hc2 hc3 hw
              have hle : (start : Int) ≤ (s.size : Int) := by omega
              go_wp2_with (go_at_call 112; refine (word_no _ _ hsx HW.out).mono ?_; rintro e w2 ⟨rfl, hb2⟩)
              rw [Exit.noGoto_ret]
              go_ret2
              exact ⟨rfl, hB2.trans (hb2.mono hB2.size)⟩
          · clear h34 h92 h32
            go_wp2
            go_roundw
            case rel => exact ⟨pos + n, start, true, false, ss, hd2, by omega, by omega, rfl, rfl, rfl, hO2, hI2, hB2, HE⟩
            case measure => rw [hps2.out, HPS.out]; omega
        have t32 : ((r : Int) == 32) = false := by simp; omega
        clear h34 h92 h32
        go_wp2
        go_roundw
        case rel => exact ⟨pos + n, start, bq, false, ss, hd2, by omega, by omega, rfl, rfl, rfl, hO2, hI2, hB2, HE⟩
        case measure => rw [hps2.out, HPS.out]; omega
      · go_wp2
        go_roundw
        case rel => exact ⟨pos + n, start, bq, false, ss, hd2, by omega, by omega, rfl, rfl, rfl, hO2, hI2, hB2, HE⟩
        case measure => rw [hps2.out, HPS.out]; omega
    · have hnext := fun ty => Lib.run_next_end_at (P := Tryz.prog) wr w.heap.size S pos ty hI hlt
      have hle : (start : Int) ≤ (s.size : Int) := by
        have h1 := HSZ.out
        by_cases hs2 : start = S.size
        · have h2 := HE.out
          rw [hs2, List.take_of_length_le (by simp), HBL.out] at h2
          have hne : bytesOf ss ≠ [] := by
            intro e; rw [e] at h2
            simp at h2
          rw [flat_eq _ hne] at h2
          exact absurd (List.append_cancel_right h2) (HJ.out _)
        · omega
      go_wp2
      rw [Exit.noGoto_ret]
      go_ret2
      exact ⟨rfl, hB⟩

theorem scan_e (q : Bool) (c : UInt8) : scanQ q true c = q ∧ scanE q true c = false := ⟨rfl, rfl⟩
theorem scan_92 (q : Bool) (c : UInt8) (h : c.toNat = 92) : scanQ q false c = q ∧ scanE q false c = q := by simp [scanQ, scanE, h]
theorem scan_34 (q : Bool) (c : UInt8) (h : c.toNat = 34) : scanQ q false c = !q ∧ scanE q false c = false := by simp [scanQ, scanE, h]
theorem scan_o (q : Bool) (c : UInt8) (h : c.toNat ≠ 34) (h' : c.toNat ≠ 92) : scanQ q false c = q ∧ scanE q false c = false := by simp [scanQ, scanE, h, h']

end Go.Proofs.YtmmpalnalogfnaaGreatDoor

/- Walks of Number and Decimal. -/
namespace Go.Proofs.YtmmpalnalogfnaaGreatDoor.Txt
open Go.RowKit
set_option linter.unusedSimpArgs false
set_option linter.unusedVariables false

/-! ### the library's variables that are read: they stand as they were laid -/
theorem gRange : Tryz.prog.globalNamed "strconv.ErrRange" = some 1 := by kernel_rfl
theorem gPow : Tryz.prog.globalNamed "internal/strconv.uint64pow10" = some 2 := by kernel_rfl
structure Env (w : World) : Prop where
  rng : ∃ tp p, w.var? Tryz.prog "strconv.ErrRange" = some #[.iface tp p]
  pow : Lib.TabIs Tryz.prog w "internal/strconv.uint64pow10" .u64 Lib.pow10Tab
theorem var_lt {w : World} {n : String} {g : Nat} {cs : Array Value} (hg : Tryz.prog.globalNamed n = some g) (h : w.var? Tryz.prog n = some cs) : g < w.heap.size := by
  unfold World.var? at h
  simp only [hg, Option.bind_some] at h
  rcases Nat.lt_or_ge g w.heap.size with h' | h'
  · exact h'
  · rw [Array.getElem?_eq_none h'] at h; cases h
theorem Env.more {w w' : World} (h : Env w) (hb : Below w.heap.size w w') : Env w' := by
  obtain ⟨⟨tp, p, h1⟩, h2⟩ := h
  exact ⟨⟨tp, p, var?_below hb gRange (var_lt gRange h1) h1⟩, var?_below hb gPow (var_lt gPow h2) h2⟩

/-! ### the code's -/
def bodyA (s : ByteArray) : ByteArray := ⟨(bodyL s.data.toList).toArray⟩
theorem bodyA_list (s : ByteArray) : (bodyA s).data.toList = bodyL s.data.toList := by simp [bodyA]
theorem bodyL_le (l : List UInt8) : (bodyL l).length ≤ l.length := by
  cases l with
  | nil => simp [bodyL]
  | cons c r => simp only [bodyL]; split <;> simp
theorem bodyA_le (s : ByteArray) : (bodyA s).size ≤ s.size := by
  have h1 : (bodyA s).size = (bodyL s.data.toList).length := by simp [bodyA, ByteArray.size]
  have h2 := bodyL_le s.data.toList
  simp only [Array.length_toList, ByteArray.size_data] at h2
  omega
theorem trim_eq (l : List UInt8) : Lib.trimPrefix l [45] = bodyL l := by
  cases l with
  | nil => rfl
  | cons c r =>
    simp only [Lib.trimPrefix, Lib.hasPrefix, List.isPrefixOf, bodyL, Bool.and_true]
    by_cases h : c.toNat = 45
    · have : c = 45 := UInt8.toNat_inj.1 h
      subst this
      simp
    · have : ¬ (45 : UInt8) = c := fun e => h (by rw [← e]; rfl)
      simp [h, this]
theorem trim_any (s : ByteArray) (w : World) :
    Calls Tryz.prog 163 #[.string s, .string ⟨#[45]⟩] w fun e w' => e = .returned (.string (bodyA s)) ∧ w = w' := by
  refine (Tryz.strings_TrimPrefix s ⟨#[45]⟩ w).mono ?_
  rintro e w' ⟨rfl, rfl⟩
  refine ⟨?_, rfl⟩
  rw [bodyA, ← trim_eq]
theorem headZ_eq (D : ByteArray) (h : 0 < D.size) : headZ D.data.toList = decide (D[0].toNat = 48) := by
  rw [bytes_cons1 D h]; rfl
set_option maxRecDepth 100000 in
set_option maxHeartbeats 1000000 in
theorem isNumber_any (s : ByteArray) (w : World) (hs : s.size ≤ 40000) :
    Calls Tryz.prog 113 #[.string s] w fun e w' => e = .returned (.bool (formB s.data.toList)) ∧ w = w' := by
  have htrim : ∀ w, Calls Tryz.prog 163 #[.string s, .string ⟨#[45]⟩] w fun e w' => e = .returned (.string (bodyA s)) ∧ w = w' := trim_any s
  have hD := bodyA_list s
  have hDl := bodyA_le s
  generalize bodyA s = D at hD hDl htrim
  have HT := Lib.hid htrim
  have HF : Hid (formB s.data.toList = (!D.data.toList.isEmpty && allFrom dgB D 0 && (!headZ D.data.toList || s.data.toList == [48]))) := Lib.hid (by
    rw [formB, ← hD]; rfl)
  clear htrim hD
  by_cases h0 : 0 < D.size
  case neg =>
    have t1 := isEmpty_yes D (by omega)
    have HE : Hid (D.data.toList.isEmpty = true) := Lib.hid (by rw [← ByteArray.toList_eq]; exact t1)
    go_enter Tryz.func113, Tryz.ntmps113
    go_wp2_with (go_at_call 163; refine (HT.out _).mono ?_; rintro e w' ⟨rfl, rfl⟩)
    go_ret
    exact ⟨ret_bool (by rw [HF.out, HE.out]; rfl), rfl⟩
  have t1 := isEmpty_no D h0
  have HE : Hid (D.data.toList.isEmpty = false) := Lib.hid (by rw [← ByteArray.toList_eq]; exact t1)
  have HZ := Lib.hid (headZ_eq D h0)
  go_enter Tryz.func113, Tryz.ntmps113
  go_wp2_with (go_at_call 163; refine (HT.out _).mono ?_; rintro e w' ⟨rfl, rfl⟩)
  go_loop [11] (fun i => ∃ k : Nat, k ≤ D.size ∧ i = .int .i64 k ∧ allFrom dgB D 0 = allFrom dgB D k) (fun i => D.size - (intOf i).toNat)
  case atStart => exact ⟨0, Nat.zero_le _, rfl, rfl⟩
  case round =>
    obtain ⟨k, hk, rfl, he⟩ := hrel
    have He := Lib.hid he
    clear he
    by_cases hlt : k < D.size
    · have Hc := Lib.hid (allFrom_step dgB D k hlt)
      cases hc : dgB D[k]
      · go_wp2_with (go_at_call 164; refine (isDigit_any _ _).mono ?_; rintro e w' ⟨rfl, rfl⟩)
        go_ret
        exact ⟨ret_bool (by rw [HF.out, He.out, Hc.out, hc]; simp), rfl⟩
      · go_wp2_with (go_at_call 164; refine (isDigit_any _ _).mono ?_; rintro e w' ⟨rfl, rfl⟩)
        go_round
        case rel => exact ⟨k + 1, by omega, by go_num, by rw [He.out, Hc.out, hc]; rfl⟩
        case measure => simp [intOf]; omega
    · have Hc := Lib.hid (allFrom_end dgB D k (by omega))
      by_cases hz : D[0].toNat = 48
      · have hz1 : ((D[0].toNat : Int) != 48) = false := by simp; omega
        have HZ2 : Hid (headZ D.data.toList = true) := Lib.hid (by rw [HZ.out, hz]; rfl)
        clear hz
        go_wp2
        go_ret
        exact ⟨ret_bool (by rw [HF.out, HE.out, He.out, Hc.out, HZ2.out]; simp [ByteArray.toList_eq]), rfl⟩
      · have hz1 : ((D[0].toNat : Int) != 48) = true := by simp; omega
        have HZ2 : Hid (headZ D.data.toList = false) := Lib.hid (by rw [HZ.out]; simpa using hz)
        clear hz
        go_wp2
        go_ret
        exact ⟨ret_bool (by rw [HF.out, HE.out, He.out, Hc.out, HZ2.out]; rfl), rfl⟩

set_option maxRecDepth 100000 in
set_option maxHeartbeats 1000000 in
theorem number_any (s : ByteArray) (w : World) (hs : s.size ≤ 40000) (hE : Env w) :
    Calls Tryz.prog 46 #[.string s] w fun e w' => e = .returned (.tuple #[.int .i64 (numR s.data.toList).1, .int .i64 (numR s.data.toList).2]) ∧ Below w.heap.size w w' := by
  cases hf : formB s.data.toList
  · have HR : Hid (numR s.data.toList = (0, 3)) := Lib.hid (by simp [numR, hf])
    have HF := isNumber_any s w hs
    rw [hf] at HF
    have HF' := Lib.hid HF
    clear HF hf
    go_enter Tryz.func46, Tryz.ntmps46
    go_wp2_with (go_at_call 113; refine HF'.out.mono ?_; rintro e w' ⟨rfl, rfl⟩)
    go_ret2
    exact ⟨by rw [HR.out]; rfl, Below.refl _ _⟩
  · have HF := isNumber_any s w hs
    rw [hf] at HF
    have HF' := Lib.hid HF
    have ha := atoi_eq _ hf
    cases hfit : fitB s.data.toList
    · rw [hfit] at ha
      have HA : Hid (Lib.atoiAll s.data.toList = .range) := Lib.hid ha
      have HR : Hid (numR s.data.toList = (0, 4)) := Lib.hid (by simp [numR, hf, hfit])
      obtain ⟨tp, p, hv⟩ := hE.rng
      have HV := Lib.hid hv
      clear HF hf ha hfit hv
      go_enter Tryz.func46, Tryz.ntmps46
      go_wp2_with (first
        | (go_at_call 113; refine HF'.out.mono ?_; rintro e w' ⟨rfl, rfl⟩)
        | (go_at_call 114; refine (Tryz.strconv_Atoi_range_var _ (by omega) HA.out tp p _ HV.out).mono ?_; rintro e w2 ⟨N, rfl, _, _, hb⟩))
      go_ret2
      exact ⟨by rw [HR.out]; rfl, hb⟩
    · rw [hfit] at ha
      have HA : Hid (Lib.atoiAll s.data.toList = .ok (valI s.data.toList)) := Lib.hid ha
      have HR : Hid (numR s.data.toList = (valI s.data.toList, 0)) := Lib.hid (by simp [numR, hf, hfit])
      clear HF hf ha hfit
      generalize valI s.data.toList = v at *
      go_enter Tryz.func46, Tryz.ntmps46
      go_wp2_with (first
        | (go_at_call 113; refine HF'.out.mono ?_; rintro e w' ⟨rfl, rfl⟩)
        | (go_at_call 114; refine (Tryz.strconv_Atoi_ok _ (by omega) v HA.out _).mono ?_; rintro e w2 ⟨rfl, hb0⟩; have hb : Below w.heap.size w w2 := (by rcases hb0 with rfl | ⟨t, rfl⟩; exact Below.refl _ _; exact Lib.bytesWorld_below _ _ _); clear hb0))
      go_ret2
      exact ⟨by rw [HR.out]; rfl, hb⟩

end Go.Proofs.YtmmpalnalogfnaaGreatDoor.Txt

/- Plain facts on periods: sets of days as ascending lists; nothing of the program. -/
namespace Go.Proofs.YtmmpalnalogfnaaGreatDoor.Per
set_option linter.unusedSimpArgs false
set_option linter.unusedVariables false

abbrev Per := Int × Int × Int
def okQ (p : Per) : Bool := decide (0 ≤ p.1 ∧ p.1 ≤ p.2.1 ∧ p.2.1 < 36525 ∧ p.2.1 - p.1 < 800 ∧ 1 ≤ p.2.2 ∧ p.2.2 ≤ 127)
def errQ (p : Per) : Int := if p.1 < 0 ∨ p.2.1 < p.1 ∨ 36525 ≤ p.2.1 then 12 else if 800 ≤ p.2.1 - p.1 then 4 else if p.2.2 < 1 ∨ 127 < p.2.2 then 2 else 0
theorem okQ_yes {p : Per} (h : okQ p = true) : 0 ≤ p.1 ∧ p.1 ≤ p.2.1 ∧ p.2.1 < 36525 ∧ p.2.1 - p.1 < 800 ∧ 1 ≤ p.2.2 ∧ p.2.2 ≤ 127 := by simpa [okQ] using h
theorem okQ_mk {p : Per} (h : 0 ≤ p.1 ∧ p.1 ≤ p.2.1 ∧ p.2.1 < 36525 ∧ p.2.1 - p.1 < 800 ∧ 1 ≤ p.2.2 ∧ p.2.2 ≤ 127) : okQ p = true := by simpa [okQ] using h
theorem errQ_ok {p : Per} (h : okQ p = true) : errQ p = 0 := by
  have := okQ_yes h
  rw [errQ, if_neg (by omega), if_neg (by omega), if_neg (by omega)]
theorem errQ_no {p : Per} (h : okQ p = false) : errQ p ≠ 0 := by
  intro e
  have : okQ p = true := by
    unfold errQ at e
    split at e
    · omega
    · split at e
      · omega
      · split at e
        · omega
        · exact okQ_mk (by omega)
  rw [h] at this
  cases this
theorem errQ_two {p : Per} (h : okQ p = false) : (errQ p == 0) = false := beq_eq_false_iff_ne.2 (errQ_no h)

/-- the place of a day's weekday -/
def wkN (n : Int) : Nat := ((n + 5) % 7).toNat
theorem wkN_lt (n : Int) : wkN n < 7 := by unfold wkN; omega
theorem wkN_int (n : Int) : ((wkN n : Nat) : Int) = (n + 5) % 7 := by unfold wkN; omega
def wdB (d : Int) (n : Int) : Bool := d.toNat.testBit (wkN n)
def hasQ (p : Per) (n : Int) : Bool := okQ p && (decide (p.1 ≤ n) && (decide (n ≤ p.2.1) && wdB p.2.2 n))
theorem hasQ_iff (p : Per) (n : Int) : hasQ p n = true ↔ okQ p = true ∧ p.1 ≤ n ∧ n ≤ p.2.1 ∧ wdB p.2.2 n = true := by simp [hasQ]

/-- k days from f on -/
def fromR (f : Int) (k : Nat) : List Int := (List.range k).map fun (i : Nat) => f + (i : Int)
theorem fromR_succ (f : Int) (k : Nat) : fromR f (k + 1) = fromR f k ++ [f + (k : Int)] := by simp [fromR, List.range_succ]
theorem fromR_length (f : Int) (k : Nat) : (fromR f k).length = k := by simp [fromR]
theorem fromR_mem (f : Int) (k : Nat) (n : Int) : n ∈ fromR f k ↔ f ≤ n ∧ n < f + k := by
  simp only [fromR, List.mem_map, List.mem_range]
  constructor
  · rintro ⟨i, hi, rfl⟩; omega
  · rintro ⟨h1, h2⟩; exact ⟨(n - f).toNat, by omega, by omega⟩
/-- the days of a set: the first k days looked at; all -/
def daysTo (p : Per) (k : Nat) : List Int := (fromR p.1 k).filter fun n => wdB p.2.2 n
def lenQ (p : Per) : Nat := (p.2.1 - p.1 + 1).toNat
def daysQ (p : Per) : List Int := if okQ p then daysTo p (lenQ p) else []
theorem daysTo_hit (p : Per) (k : Nat) (h : wdB p.2.2 (p.1 + k) = true) : daysTo p (k + 1) = daysTo p k ++ [p.1 + (k : Int)] := by
  rw [daysTo, fromR_succ, List.filter_append]; simp [daysTo, h]
theorem daysTo_miss (p : Per) (k : Nat) (h : wdB p.2.2 (p.1 + k) = false) : daysTo p (k + 1) = daysTo p k := by
  rw [daysTo, fromR_succ, List.filter_append]; simp [daysTo, h]
theorem daysTo_len (p : Per) (k : Nat) : (daysTo p k).length ≤ k := by
  have := List.length_filter_le (fun n => wdB p.2.2 n) (fromR p.1 k)
  rw [fromR_length] at this
  exact this
theorem daysQ_yes {p : Per} (h : okQ p = true) : daysQ p = daysTo p (lenQ p) := by rw [daysQ, if_pos h]
theorem daysQ_no {p : Per} (h : okQ p = false) : daysQ p = [] := by rw [daysQ, if_neg (by simp [h])]
theorem daysQ_mem (p : Per) (n : Int) : n ∈ daysQ p ↔ hasQ p n = true := by
  rw [hasQ_iff]
  cases h : okQ p
  · rw [daysQ_no h]; simp
  · rw [daysQ_yes h, daysTo, List.mem_filter, fromR_mem, lenQ]
    have := okQ_yes h
    constructor
    · rintro ⟨⟨h1, h2⟩, h3⟩; exact ⟨rfl, h1, by omega, h3⟩
    · rintro ⟨_, h1, h2, h3⟩; exact ⟨⟨h1, by omega⟩, h3⟩
theorem daysQ_len (p : Per) : (daysQ p).length ≤ 800 := by
  cases h : okQ p
  · rw [daysQ_no h]; simp
  · rw [daysQ_yes h]
    have h1 := daysTo_len p (lenQ p)
    have h2 := okQ_yes h
    unfold lenQ at h1 ⊢
    omega
/-- the same, told as the reference does -/
theorem or_add : ∀ m, m < 128 → ∀ k, k < 7 → (m ||| 2 ^ k) = if m / 2 ^ k % 2 = 0 then m + 2 ^ k else m := by decide

end Go.Proofs.YtmmpalnalogfnaaGreatDoor.Per
