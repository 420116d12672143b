/- Plain facts on bid prices: how many pay a value or more; curves; accepted seats. -/
import Derived.Test.YtjogjlfgfohihaaKitB
namespace Go.Proofs.Ytjogjlfgfohihaa
open Go.RowKit Go.Shelf
set_option linter.unusedSimpArgs false
set_option linter.unusedVariables false

/-- a demand: its value and how many -/
structure Dm where
  v : Int
  c : Int
abbrev encD (d : Dm) : List Value := [.int .i64 d.v, .int .i64 d.c]
/-- how many pay v or more -/
def cntS : List Dm → Int → Nat
  | [], _ => 0
  | d :: r, v => (if v ≤ d.v then d.c.toNat else 0) + cntS r v
def allS : List Dm → Nat
  | [] => 0
  | d :: r => d.c.toNat + allS r
theorem cntS_app (a b : List Dm) (v : Int) : cntS (a ++ b) v = cntS a v + cntS b v := by
  induction a with
  | nil => simp [cntS]
  | cons d r ih => simp only [List.cons_append, cntS, ih]; omega
theorem allS_app (a b : List Dm) : allS (a ++ b) = allS a + allS b := by
  induction a with
  | nil => simp [allS]
  | cons d r ih => simp only [List.cons_append, allS, ih]; omega
theorem cntS_le (a : List Dm) (v : Int) : cntS a v ≤ allS a := by
  induction a with
  | nil => simp [cntS, allS]
  | cons d r ih => simp only [cntS, allS]; split <;> omega
theorem cntS_all (a : List Dm) (v : Int) (h : ∀ d ∈ a, v ≤ d.v) : cntS a v = allS a := by
  induction a with
  | nil => simp [cntS, allS]
  | cons d r ih =>
    simp only [cntS, allS]
    rw [if_pos (h d (List.mem_cons_self ..)), ih (fun x hx => h x (List.mem_cons_of_mem _ hx))]
theorem cntS_perm {a b : List Dm} (h : a.Perm b) (v : Int) : cntS a v = cntS b v := by
  induction h with
  | nil => rfl
  | cons x _ ih => simp only [cntS, ih]
  | swap x y l => simp only [cntS]; omega
  | trans _ _ i1 i2 => exact i1.trans i2
theorem cntS_hit (a : List Dm) (v : Int) (h : 0 < cntS a v) : ∃ d ∈ a, v ≤ d.v := by
  induction a with
  | nil => simp [cntS] at h
  | cons d r ih =>
    simp only [cntS] at h
    by_cases hv : v ≤ d.v
    · exact ⟨d, List.mem_cons_self .., hv⟩
    · rw [if_neg hv] at h
      obtain ⟨x, hx, hxv⟩ := ih (by omega)
      exact ⟨x, List.mem_cons_of_mem _ hx, hxv⟩
theorem cntS_mono (a : List Dm) {v u : Int} (h : v ≤ u) : cntS a u ≤ cntS a v := by
  induction a with
  | nil => simp [cntS]
  | cons d r ih => simp only [cntS]; split <;> split <;> omega

/-- what an element of a demand is wrong with -/
def dmE (d : Dm) : Int := if d.v < 0 ∨ 1099511627776 < d.v then 11 else if d.c < 0 then 2 else 0
def dmsE : List Dm → Int
  | [] => 0
  | d :: r => if dmE d ≠ 0 then dmE d else dmsE r
theorem dmsE_zero {l : List Dm} (h : dmsE l = 0) : ∀ d ∈ l, 0 ≤ d.v ∧ d.v ≤ 1099511627776 ∧ 0 ≤ d.c := by
  induction l with
  | nil => intro d hd; cases hd
  | cons x r ih =>
    simp only [dmsE] at h
    split at h
    · rename_i hne; exact absurd h hne
    · rename_i h0
      intro d hd
      rcases List.mem_cons.1 hd with rfl | hd
      · simp only [dmE, ne_eq, Decidable.not_not] at h0
        split at h0
        · cases h0
        · split at h0
          · cases h0
          · omega
      · exact ih h d hd
theorem dmsE_app (a b : List Dm) : dmsE (a ++ b) = if dmsE a ≠ 0 then dmsE a else dmsE b := by
  induction a with
  | nil => simp [dmsE]
  | cons d r ih =>
    simp only [List.cons_append, dmsE, ih]
    by_cases h : dmE d = 0
    · simp [h]
    · simp [h]
/-- the first k elements are right -/
theorem dmsE_step {l : List Dm} {k : Nat} {d : Dm} (hd : l[k]? = some d) (hp : dmsE (l.take k) = 0) : dmsE (l.take (k + 1)) = dmE d ∧ (dmE d ≠ 0 → dmsE l = dmE d) := by
  have h1 : l.take (k + 1) = l.take k ++ [d] := by rw [List.take_add_one, hd]; rfl
  have h2 : dmsE (l.take (k + 1)) = dmE d := by
    rw [h1, dmsE_app, if_neg (by simp [hp])]
    simp only [dmsE]
    split
    · rfl
    · rename_i h; simpa using (Decidable.not_not.1 h).symm
  refine ⟨h2, fun hne => ?_⟩
  have h3 : l = l.take (k + 1) ++ l.drop (k + 1) := (List.take_append_drop _ _).symm
  conv => lhs; rw [h3]
  rw [dmsE_app, h2, if_pos hne]
/-- what Curve returns besides the prices -/
def curE (l : List Dm) (n : Int) : Int := if n < 0 ∨ 999 < n then 2 else dmsE l
theorem curE_zero {l : List Dm} {n : Int} (h : curE l n = 0) : (0 ≤ n ∧ n ≤ 999) ∧ dmsE l = 0 := by
  unfold curE at h
  split at h
  · cases h
  · exact ⟨by omega, h⟩

/-- a are the prices of n seats -/
structure CurveR (l : List Dm) (n : Nat) (a : List Int) : Prop where
  len : a.length = n
  pos : ∀ x ∈ a, 0 ≤ x
  at' : ∀ (k : Nat) (x v : Int), a[k]? = some x → 0 < v → (v ≤ x ↔ k < cntS l v)
theorem CurveR.uniq {l : List Dm} {n : Nat} {a b : List Int} (ha : CurveR l n a) (hb : CurveR l n b) : a = b := by
  apply List.ext_getElem (ha.len.trans hb.len.symm)
  intro i h1 h2
  have xa := List.getElem?_eq_getElem h1
  have xb := List.getElem?_eq_getElem h2
  have pa := ha.pos _ (List.getElem_mem h1)
  have pb := hb.pos _ (List.getElem_mem h2)
  generalize a[i] = x at *
  generalize b[i] = y at *
  rcases Int.lt_trichotomy x y with h | h | h
  · have := (ha.at' i x y xa (by omega)).2 ((hb.at' i y y xb (by omega)).1 (Int.le_refl _))
    omega
  · exact h
  · have := (hb.at' i y x xb (by omega)).2 ((ha.at' i x x xa (by omega)).1 (Int.le_refl _))
    omega
theorem CurveR.fall {l : List Dm} {n : Nat} {a : List Int} (ha : CurveR l n a) {i j : Nat} {x y : Int} (hij : i ≤ j) (hx : a[i]? = some x) (hy : a[j]? = some y) : y ≤ x := by
  have py := ha.pos y (List.mem_of_getElem? hy)
  have px := ha.pos x (List.mem_of_getElem? hx)
  by_cases h0 : y = 0
  · omega
  · have h1 := (ha.at' j y y hy (by omega)).1 (Int.le_refl _)
    exact (ha.at' i x y hx (by omega)).2 (by omega)
theorem CurveR.max {l : List Dm} {n : Nat} {a : List Int} (ha : CurveR l n a) (hl : ∀ d ∈ l, 0 ≤ d.v ∧ d.v ≤ 1099511627776 ∧ 0 ≤ d.c) {x : Int} (hx : x ∈ a) : 0 ≤ x ∧ x ≤ 1099511627776 := by
  have px := ha.pos x hx
  refine ⟨px, ?_⟩
  by_cases h0 : x = 0
  · omega
  · obtain ⟨k, hk⟩ := List.mem_iff_getElem?.1 hx
    have h1 := (ha.at' k x x hk (by omega)).1 (Int.le_refl _)
    obtain ⟨d, hd, hv⟩ := cntS_hit l x (by omega)
    have := hl d hd
    omega
/-- more demand makes no price smaller -/
theorem CurveR.rise {l m : List Dm} {n : Nat} {a b : List Int} (ha : CurveR l n a) (hb : CurveR (l ++ m) n b) {k : Nat} {x y : Int} (hx : a[k]? = some x) (hy : b[k]? = some y) : x ≤ y := by
  have px := ha.pos x (List.mem_of_getElem? hx)
  have py := hb.pos y (List.mem_of_getElem? hy)
  by_cases h0 : x = 0
  · omega
  · have h1 := (ha.at' k x x hx (by omega)).1 (Int.le_refl _)
    exact (hb.at' k y x hy (by omega)).2 (by rw [cntS_app]; omega)
theorem CurveR.perm {l m : List Dm} {n : Nat} {a : List Int} (h : l.Perm m) (ha : CurveR l n a) : CurveR m n a :=
  ⟨ha.len, ha.pos, fun k x v hx hv => by rw [← cntS_perm h]; exact ha.at' k x v hx hv⟩

/-! ### the prices, filled from the dearest on -/
/-- what is filled of the prices by the demands p -/
structure FillR (p : List Dm) (n f : Nat) (a : List Int) : Prop where
  len : a.length = n
  full : f = min n (allS p)
  pos : ∀ x ∈ a, 0 ≤ x
  rest : ∀ (k : Nat) (x : Int), a[k]? = some x → f ≤ k → x = 0
  at' : ∀ (k : Nat) (x v : Int), a[k]? = some x → k < f → 0 < v → (v ≤ x ↔ k < cntS p v)
theorem FillR.zero (n : Nat) : FillR [] n 0 (List.replicate n 0) where
  len := by simp
  full := by simp [allS]
  pos x hx := by rw [(List.mem_replicate.1 hx).2]; exact Int.le_refl _
  rest k x hx _ := by
    have := List.mem_of_getElem? hx
    exact (List.mem_replicate.1 this).2
  at' k x v _ h := absurd h (Nat.not_lt_zero _)
theorem FillR.done {p : List Dm} {n f : Nat} {a : List Int} (h : FillR p n f a) : CurveR p n a := by
  refine ⟨h.len, h.pos, fun k x v hx hv => ?_⟩
  by_cases hk : k < f
  · exact h.at' k x v hx hk hv
  · have h0 := h.rest k x hx (by omega)
    have hkn : k < n := by have := (List.getElem?_eq_some_iff.1 hx).1; rw [h.len] at this; exact this
    have h1 := h.full
    have h2 := cntS_le p v
    constructor
    · intro h3; omega
    · intro h3; omega
/-- the prices while d is filled in: j of them -/
def fillA (a : List Int) (f j : Nat) (v : Int) : List Int := (List.range a.length).map fun k => if f ≤ k ∧ k < f + j then v else a.getD k 0
theorem fillA_zero (a : List Int) (f : Nat) (v : Int) : fillA a f 0 v = a := by
  apply List.ext_getElem
  · simp [fillA]
  · intro i h1 h2
    simp only [fillA, List.getElem_map, List.getElem_range]
    rw [if_neg (by omega)]
    simp [h2]
theorem fillA_len (a : List Int) (f j : Nat) (v : Int) : (fillA a f j v).length = a.length := by simp [fillA]
theorem fillA_set (a : List Int) (f j : Nat) (v : Int) : (fillA a f j v).set (f + j) v = fillA a f (j + 1) v := by
  apply List.ext_getElem
  · simp [fillA]
  · intro i h1 h2
    rw [List.getElem_set]
    simp only [fillA, List.getElem_map, List.getElem_range]
    by_cases e : f + j = i
    · rw [if_pos e, if_pos (by omega)]
    · rw [if_neg e]
      by_cases h3 : f ≤ i ∧ i < f + j
      · rw [if_pos h3, if_pos (by omega)]
      · rw [if_neg h3, if_neg (by omega)]
theorem fillA_get {a : List Int} {f j k : Nat} {v x : Int} (h : (fillA a f j v)[k]? = some x) : k < a.length ∧ x = if f ≤ k ∧ k < f + j then v else a.getD k 0 := by
  obtain ⟨hk, h2⟩ := List.getElem?_eq_some_iff.1 h
  rw [fillA_len] at hk
  refine ⟨hk, ?_⟩
  simp only [fillA, List.getElem_map, List.getElem_range] at h2
  exact h2.symm
theorem FillR.step {p : List Dm} {n f : Nat} {a : List Int} {d : Dm} (h : FillR p n f a) (h0 : 0 ≤ d.v) (hc : 0 ≤ d.c) (hall : ∀ x ∈ p, d.v ≤ x.v) (j : Nat) (hj : (j : Int) = if d.c < (n : Int) - f then d.c else (n : Int) - f) :
    FillR (p ++ [d]) n (f + j) (fillA a f j d.v) := by
  have hful := h.full
  have hlen := h.len
  have hA : allS (p ++ [d]) = allS p + d.c.toNat := by rw [allS_app]; simp [allS]
  have hjj : f + j = min n (allS p + d.c.toNat) := by
    split at hj <;> omega
  refine ⟨by rw [fillA_len]; exact h.len, by rw [hA]; exact hjj, fun x hx => ?_, fun k x hx hk => ?_, fun k x v hx hk hv => ?_⟩
  · obtain ⟨k, hk⟩ := List.mem_iff_getElem?.1 hx
    obtain ⟨hkl, hk⟩ := fillA_get hk
    split at hk
    · omega
    · rw [hk]
      rw [List.getD_eq_getElem?_getD, List.getElem?_eq_getElem hkl]
      exact h.pos _ (List.getElem_mem hkl)
  · obtain ⟨hkl, hk2⟩ := fillA_get hx
    rw [if_neg (by omega)] at hk2
    have h3 := h.rest k _ (List.getElem?_eq_getElem hkl) (by omega)
    rw [hk2, List.getD_eq_getElem?_getD, List.getElem?_eq_getElem hkl]
    exact h3
  · obtain ⟨hkl, hk2⟩ := fillA_get hx
    rw [cntS_app]
    have e1 : cntS [d] v = if v ≤ d.v then d.c.toNat else 0 := by simp [cntS]
    rw [e1]
    have hle := cntS_le p v
    by_cases hkf : k < f
    · rw [if_neg (by omega), List.getD_eq_getElem?_getD, List.getElem?_eq_getElem hkl] at hk2
      have h4 := h.at' k a[k] v (List.getElem?_eq_getElem hkl) hkf hv
      simp only [Option.getD_some] at hk2
      rw [hk2, h4]
      constructor
      · intro h5; omega
      · intro h5
        by_cases hvd : v ≤ d.v
        · rw [cntS_all p v (fun x hx => by have := hall x hx; omega)]
          omega
        · rw [if_neg hvd] at h5; omega
    · rw [if_pos (by omega)] at hk2
      subst hk2
      by_cases hvd : v ≤ d.v
      · rw [if_pos hvd, cntS_all p v (fun x hx => by have := hall x hx; omega)]
        constructor
        · intro _; omega
        · intro _; exact hvd
      · rw [if_neg hvd]
        constructor
        · intro h5; exact absurd h5 hvd
        · intro h5; omega

/-! ### the prices, taken one by one: the greatest that is left -/
/-- what is left of the demands l: cs -/
def remS : List Dm → List Int → Int → Nat
  | d :: r, c :: cs, v => (if v ≤ d.v then c.toNat else 0) + remS r cs v
  | _, _, _ => 0
theorem remS_start (l : List Dm) (v : Int) : remS l (l.map (·.c)) v = cntS l v := by
  induction l with
  | nil => rfl
  | cons d r ih => simp only [List.map_cons, remS, cntS, ih]
theorem remS_zero {l : List Dm} {cs : List Int} {v : Int} (h : ∀ (i : Nat) (d : Dm) (c : Int), l[i]? = some d → cs[i]? = some c → v ≤ d.v → c ≤ 0) : remS l cs v = 0 := by
  induction l generalizing cs with
  | nil => cases cs <;> rfl
  | cons d r ih =>
    cases cs with
    | nil => rfl
    | cons c q =>
      simp only [remS]
      rw [ih (fun i d' c' h1 h2 h3 => h (i + 1) d' c' (by simpa using h1) (by simpa using h2) h3)]
      split
      · have := h 0 d c rfl rfl (by assumption); omega
      · rfl
theorem remS_set {l : List Dm} {cs : List Int} {i : Nat} {d : Dm} {c : Int} (hd : l[i]? = some d) (hc : cs[i]? = some c) (h0 : 0 < c) (v : Int) : remS l cs v = (if v ≤ d.v then 1 else 0) + remS l (cs.set i (c - 1)) v := by
  induction l generalizing cs i with
  | nil => simp at hd
  | cons x r ih =>
    cases cs with
    | nil => simp at hc
    | cons y q =>
      cases i with
      | zero =>
        simp at hd hc
        subst hd hc
        simp only [List.set_cons_zero, remS]
        split <;> omega
      | succ i =>
        simp only [List.set_cons_succ, remS]
        rw [ih (by simpa using hd) (by simpa using hc)]
        omega
/-- m prices are taken: cs are left -/
structure TakeR (l : List Dm) (m : Nat) (cs a : List Int) : Prop where
  lenc : cs.length = l.length
  len : a.length = m
  pos : ∀ x ∈ a, 0 ≤ x
  posc : ∀ x ∈ cs, 0 ≤ x
  left : ∀ v : Int, remS l cs v = cntS l v - m
  at' : ∀ (k : Nat) (x v : Int), a[k]? = some x → 0 < v → (v ≤ x ↔ k < cntS l v)
theorem TakeR.zero (l : List Dm) (h : ∀ d ∈ l, 0 ≤ d.v ∧ d.v ≤ 1099511627776 ∧ 0 ≤ d.c) : TakeR l 0 (l.map (·.c)) [] where
  lenc := by simp
  len := rfl
  pos x hx := by cases hx
  posc x hx := by
    obtain ⟨d, hd, rfl⟩ := List.mem_map.1 hx
    exact (h d hd).2.2
  left v := by rw [remS_start]; rfl
  at' k x v hx := by simp at hx
theorem TakeR.done {l : List Dm} {m : Nat} {cs a : List Int} (h : TakeR l m cs a) : CurveR l m a := ⟨h.len, h.pos, h.at'⟩
/-- i is the best that is left of the first k -/
def BestR (l : List Dm) (cs : List Int) (k : Nat) (b : Int) : Prop :=
  (b = -1 ∧ ∀ (i : Nat) (c : Int), i < k → cs[i]? = some c → c ≤ 0) ∨
  ∃ (i : Nat) (d : Dm) (c : Int), b = i ∧ i < k ∧ l[i]? = some d ∧ cs[i]? = some c ∧ 0 < c ∧ ∀ (j : Nat) (d' : Dm) (c' : Int), j < k → l[j]? = some d' → cs[j]? = some c' → 0 < c' → d'.v ≤ d.v
theorem snoc_get {α : Type} (a : List α) (y : α) (k : Nat) (x : α) (h : (a ++ [y])[k]? = some x) : (a[k]? = some x ∧ k < a.length) ∨ (k = a.length ∧ x = y) := by
  by_cases hk : k < a.length
  · rw [List.getElem?_append_left hk] at h; exact .inl ⟨h, hk⟩
  · rw [List.getElem?_append_right (by omega)] at h
    have : k - a.length = 0 := by
      have := (List.getElem?_eq_some_iff.1 h).1
      simp at this; omega
    rw [this] at h
    simp at h
    exact .inr ⟨by omega, h.symm⟩
theorem TakeR.none {l : List Dm} {m : Nat} {cs a : List Int} (h : TakeR l m cs a) (hb : ∀ (i : Nat) (c : Int), i < l.length → cs[i]? = some c → c ≤ 0) : TakeR l (m + 1) cs (a ++ [0]) := by
  have hz : ∀ v, cntS l v ≤ m := fun v => by
    have h1 := h.left v
    rw [remS_zero (fun i d c hd hc _ => hb i c (List.getElem?_eq_some_iff.1 hd).1 hc)] at h1
    omega
  refine ⟨h.lenc, by simp [h.len], fun x hx => ?_, h.posc, fun v => ?_, fun k x v hx hv => ?_⟩
  · rcases List.mem_append.1 hx with hx | hx
    · exact h.pos x hx
    · simp at hx; omega
  · have := h.left v; have := hz v; omega
  · rcases snoc_get _ _ _ _ hx with ⟨h1, _⟩ | ⟨h1, h2⟩
    · exact h.at' k x v h1 hv
    · have := hz v
      have := h.len
      constructor
      · intro h3; omega
      · intro h3; omega
theorem TakeR.some {l : List Dm} {m : Nat} {cs a : List Int} (h : TakeR l m cs a) {i : Nat} {d : Dm} {c : Int} (hd : l[i]? = some d) (hc : cs[i]? = some c) (h0 : 0 < c) (hv0 : 0 ≤ d.v)
    (hb : ∀ (j : Nat) (d' : Dm) (c' : Int), j < l.length → l[j]? = some d' → cs[j]? = some c' → 0 < c' → d'.v ≤ d.v) : TakeR l (m + 1) (cs.set i (c - 1)) (a ++ [d.v]) := by
  have h1 : ∀ v, v ≤ d.v → m < cntS l v := fun v hv => by
    have e1 := h.left v
    have e2 := remS_set hd hc h0 v
    rw [if_pos hv] at e2
    omega
  have h2 : ∀ v, d.v < v → cntS l v ≤ m := fun v hv => by
    have e1 := h.left v
    have e2 : remS l cs v = 0 := remS_zero (fun j d' c' hd' hc' hv' => by
      by_cases h3 : 0 < c'
      · have := hb j d' c' (List.getElem?_eq_some_iff.1 hd').1 hd' hc' h3; omega
      · omega)
    omega
  refine ⟨by simp [h.lenc], by simp [h.len], fun x hx => ?_, fun x hx => ?_, fun v => ?_, fun k x v hx hv => ?_⟩
  · rcases List.mem_append.1 hx with hx | hx
    · exact h.pos x hx
    · simp at hx; omega
  · rcases List.mem_or_eq_of_mem_set hx with hx | hx
    · exact h.posc x hx
    · omega
  · have e1 := h.left v
    have e2 := remS_set hd hc h0 v
    by_cases hv : v ≤ d.v
    · rw [if_pos hv] at e2; have := h1 v hv; omega
    · rw [if_neg hv] at e2; have := h2 v (by omega); omega
  · rcases snoc_get _ _ _ _ hx with ⟨h3, _⟩ | ⟨h3, h4⟩
    · exact h.at' k x v h3 hv
    · have := h.len
      subst h4
      constructor
      · intro h5; have := h1 v h5; omega
      · intro h5
        by_cases hvd : v ≤ d.v
        · exact hvd
        · have := h2 v (by omega); omega

/-! ### curves that are right -/
def sumI : List Int → Int
  | [] => 0
  | x :: r => x + sumI r
theorem sumI_app (a b : List Int) : sumI (a ++ b) = sumI a + sumI b := by
  induction a with
  | nil => simp [sumI]
  | cons x r ih => simp only [List.cons_append, sumI, ih]; omega
def RgtP (a : List Int) : Prop := a.length ≤ 999 ∧ ∀ (k : Nat) (x : Int), a[k]? = some x → 0 ≤ x ∧ x ≤ 1099511627776 ∧ ∀ y, a[k - 1]? = some y → x ≤ y
noncomputable def rgtC (a : List Int) : Bool := @decide (RgtP a) (Classical.propDecidable _)
theorem rgtC_iff (a : List Int) : rgtC a = true ↔ RgtP a := by unfold rgtC; simp
theorem rgtC_no {a : List Int} (h : ¬ RgtP a) : rgtC a = false := by unfold rgtC; simp [h]
theorem RgtP.mem {a : List Int} (h : RgtP a) {x : Int} (hx : x ∈ a) : 0 ≤ x ∧ x ≤ 1099511627776 := by
  obtain ⟨k, hk⟩ := List.mem_iff_getElem?.1 hx
  have := h.2 k x hk
  exact ⟨this.1, this.2.1⟩
theorem sumI_in (s : List Int) (h : ∀ x ∈ s, 0 ≤ x ∧ x ≤ 1099511627776) : 0 ≤ sumI s ∧ sumI s ≤ 1099511627776 * s.length := by
  induction s with
  | nil => simp [sumI]
  | cons x r ih =>
    have h1 := h x (List.mem_cons_self ..)
    have h2 := ih (fun y hy => h y (List.mem_cons_of_mem _ hy))
    simp only [sumI, List.length_cons]
    omega
theorem CurveR.right {l : List Dm} {n : Nat} {a : List Int} (ha : CurveR l n a) (hl : ∀ d ∈ l, 0 ≤ d.v ∧ d.v ≤ 1099511627776 ∧ 0 ≤ d.c) (hn : n ≤ 999) : RgtP a :=
  ⟨by rw [ha.len]; exact hn, fun k x hx => ⟨(ha.max hl (List.mem_of_getElem? hx)).1, (ha.max hl (List.mem_of_getElem? hx)).2, fun y hy => ha.fall (by omega) hy hx⟩⟩
/-- the bid price with n seats left -/
def prF (a : List Int) (n : Int) : Int := if n < 1 then -1 else if (a.length : Int) < n then 0 else a.getD (n - 1).toNat 0
theorem prF_in {a : List Int} (h : RgtP a) (n : Int) : -1 ≤ prF a n ∧ prF a n ≤ 1099511627776 := by
  unfold prF
  split
  · omega
  · split
    · omega
    · rw [List.getD_eq_getElem?_getD]
      have hk : (n - 1).toNat < a.length := by omega
      rw [List.getElem?_eq_getElem hk]
      have := h.mem (List.getElem_mem hk)
      simp only [Option.getD_some]
      omega
theorem prF_pos {a : List Int} (h : RgtP a) {n : Int} (hn : 1 ≤ n) : 0 ≤ prF a n := by
  unfold prF
  rw [if_neg (by omega)]
  split
  · omega
  · rw [List.getD_eq_getElem?_getD]
    have hk : (n - 1).toNat < a.length := by omega
    rw [List.getElem?_eq_getElem hk]
    have := h.mem (List.getElem_mem hk)
    simp only [Option.getD_some]
    omega
/-- fewer seats that are left cost no less -/
theorem prF_fall {a : List Int} (h : RgtP a) {n m : Int} (h1 : 1 ≤ n) (hm : n ≤ m) : prF a m ≤ prF a n := by
  have hdown : ∀ (d i : Nat) (x y : Int), a[i]? = some x → a[i + d]? = some y → y ≤ x := by
    intro d
    induction d with
    | zero => intro i x y hx hy; rw [Nat.add_zero, hx] at hy; cases hy; omega
    | succ d ih =>
      intro i x y hx hy
      have hlt := (List.getElem?_eq_some_iff.1 hy).1
      have hz : a[i + d]? = some a[i + d] := List.getElem?_eq_getElem (by omega)
      have h2 := ih i x _ hx hz
      have h3 := (h.2 _ _ hy).2.2 a[i + d] (by rw [show i + (d + 1) - 1 = i + d by omega]; exact hz)
      omega
  by_cases h2 : (a.length : Int) < m
  · have : prF a m = 0 := by unfold prF; rw [if_neg (by omega), if_pos h2]
    rw [this]
    exact prF_pos h h1
  · have e1 : prF a m = a.getD (m - 1).toNat 0 := by unfold prF; rw [if_neg (by omega), if_neg h2]
    have e2 : prF a n = a.getD (n - 1).toNat 0 := by unfold prF; rw [if_neg (by omega), if_neg (by omega)]
    have k1 : (m - 1).toNat < a.length := by omega
    have k2 : (n - 1).toNat < a.length := by omega
    rw [e1, e2, List.getD_eq_getElem?_getD, List.getD_eq_getElem?_getD, List.getElem?_eq_getElem k1, List.getElem?_eq_getElem k2]
    simp only [Option.getD_some]
    refine hdown ((m - 1).toNat - (n - 1).toNat) (n - 1).toNat _ _ (List.getElem?_eq_getElem k2) ?_
    rw [show (n - 1).toNat + ((m - 1).toNat - (n - 1).toNat) = (m - 1).toNat by omega]
    exact List.getElem?_eq_getElem k1
/-- what n seats are worth -/
def wrF (a : List Int) (n : Int) : Int := sumI (a.take n.toNat)
theorem sumI_snoc (a : List Int) (k : Nat) (x : Int) (h : a[k]? = some x) : sumI (a.take (k + 1)) = sumI (a.take k) + x := by
  rw [List.take_add_one, h, sumI_app]
  simp [sumI]
theorem wrF_in {a : List Int} (h : RgtP a) (k : Nat) : 0 ≤ sumI (a.take k) ∧ sumI (a.take k) ≤ 1099511627776 * 999 := by
  have h1 := sumI_in (a.take k) (fun x hx => h.mem (List.mem_of_mem_take hx))
  have h2 : (a.take k).length ≤ 999 := by have := h.1; simp; omega
  omega

/-! ### seats along legs -/
/-- what the seat after k costs along legs -/
def alF : List (List Int) → List Int → Int → Int
  | a :: r, n :: m, k => prF a (n - k) + alF r m k
  | _, _, _ => 0
theorem alF_take {cv : List (List Int)} {lf : List Int} {i : Nat} {a : List Int} {n : Int} (ha : cv[i]? = some a) (hn : lf[i]? = some n) (k : Int) : alF (cv.take (i + 1)) (lf.take (i + 1)) k = alF (cv.take i) (lf.take i) k + prF a (n - k) := by
  induction cv generalizing lf i with
  | nil => simp at ha
  | cons x r ih =>
    cases lf with
    | nil => simp at hn
    | cons y q =>
      cases i with
      | zero =>
        simp at ha hn
        subst ha hn
        simp [alF]
      | succ i =>
        have := ih (lf := q) (i := i) (by simpa using ha) (by simpa using hn)
        simp only [List.take_succ_cons, alF, this]
        omega
theorem alF_in {cv : List (List Int)} (h : ∀ a ∈ cv, RgtP a) (lf : List Int) (k : Int) : -(cv.length : Int) ≤ alF cv lf k ∧ alF cv lf k ≤ 1099511627776 * cv.length := by
  induction cv generalizing lf with
  | nil => cases lf <;> simp [alF]
  | cons a r ih =>
    cases lf with
    | nil => simp only [alF, List.length_cons]; omega
    | cons n m =>
      have h1 := prF_in (h a (List.mem_cons_self ..)) (n - k)
      have h2 := ih (fun x hx => h x (List.mem_cons_of_mem _ hx)) m
      simp only [alF, List.length_cons]
      omega
/-- a seat after k is accepted -/
def GdP (cv : List (List Int)) (lf : List Int) (value : Int) (k : Nat) : Prop := (∀ x ∈ lf, (k : Int) < x) ∧ alF cv lf k ≤ value
def moF (most : Int) : Nat := (if most < 999 then most else 999).toNat
/-- r seats are accepted -/
def SeatsR (cv : List (List Int)) (lf : List Int) (value most : Int) (r : Nat) : Prop :=
  if cv.length ≠ lf.length ∨ lf.length = 0 then r = 0 else r ≤ moF most ∧ (∀ k, k < r → GdP cv lf value k) ∧ (r = moF most ∨ ¬ GdP cv lf value r)
theorem SeatsR.uniq {cv : List (List Int)} {lf : List Int} {value most : Int} {a b : Nat} (ha : SeatsR cv lf value most a) (hb : SeatsR cv lf value most b) : a = b := by
  unfold SeatsR at ha hb
  split at ha
  · rw [ha, if_pos (by assumption)] at *; exact hb.symm
  · rename_i h
    rw [if_neg h] at hb
    obtain ⟨a1, a2, a3⟩ := ha
    obtain ⟨b1, b2, b3⟩ := hb
    rcases Nat.lt_trichotomy a b with hlt | he | hlt
    · rcases a3 with a3 | a3
      · omega
      · exact absurd (b2 a hlt) a3
    · exact he
    · rcases b3 with b3 | b3
      · omega
      · exact absurd (a2 b hlt) b3
/-- where whatever is accepted is accepted, no fewer seats are accepted -/
theorem SeatsR.mono {cv : List (List Int)} {lf lf' : List Int} {value value' most most' : Int} {a b : Nat} (ha : SeatsR cv lf value most a) (hb : SeatsR cv lf' value' most' b) (hl : lf'.length = lf.length) (hm : moF most ≤ moF most')
    (hg : ∀ k, GdP cv lf value k → GdP cv lf' value' k) : a ≤ b := by
  unfold SeatsR at ha hb
  split at ha
  · omega
  · rename_i h
    rw [if_neg (by rw [hl]; exact h)] at hb
    obtain ⟨a1, a2, a3⟩ := ha
    obtain ⟨b1, b2, b3⟩ := hb
    by_cases hlt : b < a
    · rcases b3 with b3 | b3
      · omega
      · exact absurd (hg b (a2 b hlt)) b3
    · omega
/-- more seats left cost no more -/
theorem alF_more {cv : List (List Int)} (h : ∀ a ∈ cv, RgtP a) (lf lf' : List Int) (k : Int) (hle : ∀ (i : Nat) (x y : Int), lf[i]? = some x → lf'[i]? = some y → k < x ∧ x ≤ y) (hl : lf'.length = lf.length) : alF cv lf' k ≤ alF cv lf k := by
  induction cv generalizing lf lf' with
  | nil => cases lf <;> cases lf' <;> simp [alF]
  | cons a r ih =>
    cases lf with
    | nil => cases lf' with
      | nil => simp [alF]
      | cons _ _ => simp at hl
    | cons n m =>
      cases lf' with
      | nil => simp at hl
      | cons n' m' =>
        have h0 := hle 0 n n' rfl rfl
        have h1 := prF_fall (h a (List.mem_cons_self ..)) (n := n - k) (m := n' - k) (by omega) (by omega)
        have h2 := ih (fun x hx => h x (List.mem_cons_of_mem _ hx)) m m' (fun i x y hx hy => hle (i + 1) x y (by simpa using hx) (by simpa using hy)) (by simpa using hl)
        simp only [alF]
        omega
end Go.Proofs.Ytjogjlfgfohihaa
