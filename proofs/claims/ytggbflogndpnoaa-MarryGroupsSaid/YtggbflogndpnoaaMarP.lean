/- Marriage numbers as plain data: runs, groups, the answers of all calls. -/
import Derived.Test.YtggbflogndpnoaaKitB
namespace Go.Proofs.Ytggbflogndpnoaa
set_option linter.unusedSimpArgs false
set_option linter.unusedVariables false

/-- the number at a place -/
def atP (l : List Int) (i : Nat) : Int := l.getD i 0
theorem atP_get {l : List Int} {i : Nat} (h : i < l.length) : l[i]? = some (atP l i) := by
  unfold atP
  rw [List.getD_eq_getElem?_getD, List.getElem?_eq_getElem h]; rfl
theorem atP_some {l : List Int} {i : Nat} {x : Int} (h : l[i]? = some x) : atP l i = x := by
  unfold atP
  rw [List.getD_eq_getElem?_getD, h]; rfl
theorem atP_tab {f : Nat → Int} {n i : Nat} (h : i < n) : atP (tab f n) i = f i := by
  apply atP_some
  simp [tab, h]
theorem tab_atP (l : List Int) : tab (atP l) l.length = l := by
  apply List.ext_getElem
  · simp [tab]
  · intro i h1 h2
    simp only [tab, List.getElem_map, List.getElem_range]
    have := atP_get h2
    rw [List.getElem?_eq_getElem h2] at this
    exact (Option.some.inj this).symm
/-- a segment begins a group -/
def staB (l : List Int) (i : Nat) : Bool := !(decide (0 < i) && decide (0 < atP l i) && decide (atP l i = atP l (i - 1)))
theorem sta_iff (l : List Int) (i : Nat) : staB l i = true ↔ i = 0 ∨ atP l i ≤ 0 ∨ atP l i ≠ atP l (i - 1) := by
  unfold staB
  simp [Bool.not_eq_true', Bool.and_eq_false_iff]
  omega
theorem sta_no (l : List Int) (i : Nat) : staB l i = false ↔ 0 < i ∧ 0 < atP l i ∧ atP l i = atP l (i - 1) := by
  rw [← Bool.not_eq_true, sta_iff]
  omega
theorem nb_iff (l : List Int) (i : Nat) : (decide (0 < i) && decide (atP l (i - 1) = atP l i) || decide (i + 1 < l.length) && decide (atP l (i + 1) = atP l i)) = true ↔ (0 < i ∧ atP l (i - 1) = atP l i) ∨ (i + 1 < l.length ∧ atP l (i + 1) = atP l i) := by
  simp
/-- where the run of the same positive number ends -/
structure IsEnd (l : List Int) (f t : Nat) : Prop where
  lt : f < t
  le : t ≤ l.length
  same : ∀ j, f ≤ j → j < t → atP l j = atP l f
  stop : 0 < atP l f → t < l.length → atP l t ≠ atP l f
  one : ¬ 0 < atP l f → t = f + 1
/-- the runs, one after another, up to a place -/
inductive Ch (l : List Int) : List (Nat × Nat) → Nat → Prop
  | nil : Ch l [] 0
  | snoc {pre f t} : Ch l pre f → IsEnd l f t → Ch l (pre ++ [(f, t)]) t
theorem Ch.le {l : List Int} {pre : List (Nat × Nat)} {b : Nat} (h : Ch l pre b) : b ≤ l.length := by
  cases h with
  | nil => exact Nat.zero_le _
  | snoc _ h => exact h.le
theorem Ch.len {l : List Int} {pre : List (Nat × Nat)} {b : Nat} (h : Ch l pre b) : pre.length ≤ b := by
  induction h with
  | nil => exact Nat.le_refl _
  | snoc _ h ih => simp; have := h.lt; omega
theorem Ch.start {l : List Int} {pre : List (Nat × Nat)} {b : Nat} (h : Ch l pre b) (hb : b < l.length) : staB l b = true := by
  rw [sta_iff]
  cases h with
  | nil => exact .inl rfl
  | @snoc pre f t h1 h2 =>
    have e1 := h2.lt
    have e2 := h2.same (b - 1) (by omega) (by omega)
    by_cases hp : 0 < atP l f
    · have := h2.stop hp hb
      omega
    · omega
theorem IsEnd.inner {l : List Int} {f t : Nat} (h : IsEnd l f t) {j : Nat} (h1 : f < j) (h2 : j < t) : staB l j = false ∧ 0 < atP l j := by
  have a := h.same j (by omega) h2
  have b := h.same (j - 1) (by omega) (by omega)
  have hp : 0 < atP l f := by
    refine Decidable.byContradiction fun hn => ?_
    have := h.one hn
    omega
  exact ⟨(sta_no l j).2 ⟨by omega, by omega, by omega⟩, by omega⟩
/-- the groups of the first i segments, as they come one by one -/
def gP (l : List Int) : Nat → List (List Int)
  | 0 => []
  | i + 1 => if staB l i = true then gP l i ++ [[(i : Int)]] else (gP l i).dropLast ++ [((gP l i).getLast?).getD [] ++ [(i : Int)]]
/-- the numbers f, .., t - 1 -/
def rgP (f t : Nat) : List Int := tab (fun i => ((f + i : Nat) : Int)) (t - f)
theorem rgP_len (f t : Nat) : (rgP f t).length = t - f := by simp [rgP, tab]
theorem rgP_snoc {f t : Nat} (h : f ≤ t) : rgP f (t + 1) = rgP f t ++ [(t : Int)] := by
  unfold rgP
  rw [show t + 1 - f = (t - f) + 1 by omega, tab_snoc, show f + (t - f) = t by omega]
theorem gP_run {l : List Int} {f : Nat} (hs : staB l f = true) : ∀ t : Nat, f < t → (∀ j, f < j → j < t → staB l j = false) → gP l t = gP l f ++ [rgP f t]
  | 0, h, _ => by omega
  | t + 1, h, hj => by
    by_cases e : t = f
    · subst e
      show (if staB l t = true then _ else _) = _
      rw [if_pos hs]
      have : rgP t (t + 1) = [(t : Int)] := by
        rw [rgP_snoc (Nat.le_refl _)]; simp [rgP, tab]
      rw [this]
    · have ih := gP_run hs t (by omega) (fun j h1 h2 => hj j h1 (by omega))
      show (if staB l t = true then _ else _) = _
      rw [if_neg (by rw [hj t (by omega) (by omega)]; exact Bool.false_ne_true), ih, List.dropLast_concat, List.getLast?_concat, Option.getD_some, rgP_snoc (by omega)]
theorem Ch.groups {l : List Int} {pre : List (Nat × Nat)} {b : Nat} (h : Ch l pre b) : gP l b = pre.map fun x => rgP x.1 x.2 := by
  induction h with
  | nil => rfl
  | @snoc pre f t h1 h2 ih =>
    have hf := h1.start (by have := h2.lt; have := h2.le; omega)
    rw [gP_run hf t h2.lt (fun j a c => (h2.inner a c).1), ih]
    simp
/-- where a run ends -/
theorem exists_end (l : List Int) (f : Nat) (hf : f < l.length) : ∃ t, IsEnd l f t := by
  by_cases hp : 0 < atP l f
  · have key : ∀ k : Nat, ∀ t : Nat, l.length - t = k → f < t → t ≤ l.length → (∀ j, f ≤ j → j < t → atP l j = atP l f) → ∃ t, IsEnd l f t := by
      intro k
      induction k with
      | zero => intro t hk h1 h2 h3; exact ⟨t, h1, h2, h3, fun _ h => by omega, fun h => absurd hp h⟩
      | succ k ih =>
        intro t hk h1 h2 h3
        by_cases e : atP l t = atP l f
        · exact ih (t + 1) (by omega) (by omega) (by omega) (fun j a c => by
            by_cases e2 : j = t
            · rw [e2]; exact e
            · exact h3 j a (by omega))
        · exact ⟨t, h1, h2, h3, fun _ _ => e, fun h => absurd hp h⟩
    exact key _ (f + 1) rfl (by omega) (by omega) (fun j a c => by rw [show j = f by omega])
  · exact ⟨f + 1, by omega, by omega, fun j a c => by rw [show j = f by omega], fun h => absurd h hp, fun _ => rfl⟩
theorem exists_runs (l : List Int) : ∃ ys, Ch l ys l.length := by
  have key : ∀ k : Nat, ∀ b : Nat, ∀ pre, l.length - b = k → Ch l pre b → ∃ ys, Ch l ys l.length := by
    intro k
    induction k using Nat.strongRecOn with
    | _ k ih =>
      intro b pre hk h
      by_cases e : b < l.length
      · obtain ⟨t, ht⟩ := exists_end l b e
        exact ih (l.length - t) (by have := ht.lt; have := ht.le; omega) t _ rfl (.snoc h ht)
      · have : b = l.length := by have := h.le; omega
        exact ⟨pre, this ▸ h⟩
  exact key _ 0 [] rfl .nil
theorem Ch.mem {l : List Int} {pre : List (Nat × Nat)} {b : Nat} (h : Ch l pre b) {x : Nat × Nat} (hx : x ∈ pre) : IsEnd l x.1 x.2 ∧ x.2 ≤ b ∧ staB l x.1 = true := by
  induction h with
  | nil => cases hx
  | @snoc pre f t h1 h2 ih =>
    rw [List.mem_append, List.mem_singleton] at hx
    rcases hx with hx | rfl
    · obtain ⟨a, b, c⟩ := ih hx
      exact ⟨a, Nat.le_trans b (Nat.le_of_lt h2.lt), c⟩
    · exact ⟨h2, Nat.le_refl _, h1.start (by have := h2.lt; have := h2.le; omega)⟩
theorem Ch.find {l : List Int} {pre : List (Nat × Nat)} {b : Nat} (h : Ch l pre b) {i : Nat} (hi : i < b) : ∃ x ∈ pre, x.1 ≤ i ∧ i < x.2 := by
  induction h with
  | nil => omega
  | @snoc pre f t h1 h2 ih =>
    by_cases e : i < f
    · obtain ⟨x, hx, q⟩ := ih e
      exact ⟨x, by simp [hx], q⟩
    · exact ⟨(f, t), by simp, by show f ≤ i; omega, hi⟩

/-! ### Check -/
def negB (l : List Int) : Bool := l.any fun x => decide (x < 0)
def nbB (l : List Int) (i : Nat) : Bool := decide (0 < i) && decide (atP l (i - 1) = atP l i) || decide (i + 1 < l.length) && decide (atP l (i + 1) = atP l i)
def sepB (l : List Int) (i k : Nat) : Bool := decide (0 < atP l i) && decide (atP l k = atP l i) && decide (atP l (k - 1) ≠ atP l i)
/-- what is wrong at a segment -/
def badI (l : List Int) (i : Nat) : Bool := decide (0 < atP l i) && !nbB l i || (List.range (l.length - (i + 2))).any fun d => sepB l i (i + 2 + d)
def badP (l : List Int) : Bool := (List.range l.length).any (badI l)
def chkP (l : List Int) : Int := if negB l = true then 2 else if badP l = true then 18 else 0
theorem sep_any (l : List Int) (i : Nat) : (List.range (l.length - (i + 2))).any (fun d => sepB l i (i + 2 + d)) = true ↔ ∃ k, i + 2 ≤ k ∧ k < l.length ∧ sepB l i k = true := by
  rw [List.any_eq_true]
  constructor
  · rintro ⟨d, hd, h⟩
    rw [List.mem_range] at hd
    exact ⟨i + 2 + d, by omega, by omega, h⟩
  · rintro ⟨k, h1, h2, h⟩
    exact ⟨k - (i + 2), by rw [List.mem_range]; omega, by rw [show i + 2 + (k - (i + 2)) = k by omega]; exact h⟩
theorem bad_iff (l : List Int) : badP l = true ↔ ∃ i, i < l.length ∧ badI l i = true := by
  unfold badP
  rw [List.any_eq_true]
  constructor
  · rintro ⟨i, hi, h⟩; exact ⟨i, List.mem_range.1 hi, h⟩
  · rintro ⟨i, hi, h⟩; exact ⟨i, List.mem_range.2 hi, h⟩
theorem neg_no {l : List Int} (h : negB l = false) (i : Nat) : 0 ≤ atP l i := by
  by_cases hi : i < l.length
  · have h1 := atP_get hi
    have h2 := List.any_eq_false.1 h _ (List.mem_of_getElem? h1)
    simpa using h2
  · unfold atP
    rw [List.getD_eq_getElem?_getD, List.getElem?_eq_none (by omega)]
    exact Int.le_refl 0
/-- what Check has seen: the positive numbers of the runs -/
def nmsP (l : List Int) (pre : List (Nat × Nat)) : List Int := (pre.map fun x => atP l x.1).filter fun n => decide (0 < n)
/-- the runs that are right so far -/
structure Fine (l : List Int) (pre : List (Nat × Nat)) : Prop where
  two : ∀ x ∈ pre, 0 < atP l x.1 → x.1 + 2 ≤ x.2
  nd : (nmsP l pre).Nodup
theorem nms_snoc (l : List Int) (pre : List (Nat × Nat)) (f t : Nat) : nmsP l (pre ++ [(f, t)]) = if 0 < atP l f then nmsP l pre ++ [atP l f] else nmsP l pre := by
  unfold nmsP
  rw [List.map_append, List.filter_append]
  by_cases h : 0 < atP l f
  · rw [if_pos h]; simp [h]
  · rw [if_neg h]; simp [h]
theorem Fine.nil (l : List Int) : Fine l [] := ⟨fun x hx => (nomatch hx), List.nodup_nil⟩
theorem Fine.zero {l : List Int} {pre : List (Nat × Nat)} (h : Fine l pre) {f t : Nat} (h0 : ¬ 0 < atP l f) : Fine l (pre ++ [(f, t)]) := by
  refine ⟨fun x hx hp => ?_, by rw [nms_snoc, if_neg h0]; exact h.nd⟩
  rw [List.mem_append, List.mem_singleton] at hx
  rcases hx with hx | rfl
  · exact h.two x hx hp
  · exact absurd hp h0
theorem Fine.put {l : List Int} {pre : List (Nat × Nat)} (h : Fine l pre) {f t : Nat} (h0 : 0 < atP l f) (h1 : f + 2 ≤ t) (h2 : atP l f ∉ nmsP l pre) : Fine l (pre ++ [(f, t)]) := by
  refine ⟨fun x hx hp => ?_, ?_⟩
  · rw [List.mem_append, List.mem_singleton] at hx
    rcases hx with hx | rfl
    · exact h.two x hx hp
    · exact h1
  · rw [nms_snoc, if_pos h0, List.nodup_append]
    exact ⟨h.nd, by simp, fun a ha b hb => by rw [List.mem_singleton] at hb; subst hb; intro e; subst e; exact h2 ha⟩
theorem mem_nms {l : List Int} {pre : List (Nat × Nat)} {n : Int} : n ∈ nmsP l pre ↔ 0 < n ∧ ∃ x ∈ pre, atP l x.1 = n := by
  unfold nmsP
  rw [List.mem_filter, List.mem_map, decide_eq_true_eq]
  exact ⟨fun h => ⟨h.2, h.1⟩, fun h => ⟨h.2, h.1⟩⟩
/-- a number that is alone -/
theorem bad_one {l : List Int} {pre : List (Nat × Nat)} {f : Nat} (h : Ch l pre f) (he : IsEnd l f (f + 1)) (h0 : 0 < atP l f) : badP l = true := by
  have hlt : f < l.length := by have := he.le; omega
  refine (bad_iff l).2 ⟨f, hlt, ?_⟩
  have hs := h.start hlt
  unfold badI
  rw [Bool.or_eq_true]
  left
  rw [Bool.and_eq_true, decide_eq_true_eq]
  refine ⟨h0, ?_⟩
  rw [Bool.not_eq_true', ← Bool.not_eq_true]
  intro hb
  have hb := (nb_iff l f).1 hb
  have hst := he.stop h0
  rw [sta_iff] at hs
  omega
/-- a number that came before -/
theorem bad_two {l : List Int} {pre : List (Nat × Nat)} {f : Nat} (h : Ch l pre f) (hlt : f < l.length) (h0 : 0 < atP l f) (hm : atP l f ∈ nmsP l pre) : badP l = true := by
  obtain ⟨_, x, hx, e⟩ := mem_nms.1 hm
  obtain ⟨hE, hle, _⟩ := h.mem hx
  have hs := h.start hlt
  have hp : 0 < atP l x.1 := by rw [e]; exact h0
  have hne : x.2 ≠ f := by
    intro e2
    have := hE.stop hp (by omega)
    rw [e2, e] at this
    exact this rfl
  have h1 := hE.lt
  refine (bad_iff l).2 ⟨x.1, by omega, ?_⟩
  unfold badI
  rw [Bool.or_eq_true]
  right
  rw [sep_any]
  refine ⟨f, by omega, hlt, ?_⟩
  rw [sta_iff] at hs
  unfold sepB
  simp only [Bool.and_eq_true, decide_eq_true_eq]
  exact ⟨⟨hp, e.symm⟩, by omega⟩
/-- in right runs, equal positive numbers lie in one run -/
theorem same_run {l : List Int} {ys : List (Nat × Nat)} (hF : Fine l ys) {x y : Nat × Nat} (hx : x ∈ ys) (hy : y ∈ ys) (hp : 0 < atP l x.1) (he : atP l x.1 = atP l y.1) : x = y := by
  have key : ∀ ys : List (Nat × Nat), (nmsP l ys).Nodup → x ∈ ys → y ∈ ys → x = y := by
    clear hx hy hF
    intro ys
    induction ys with
    | nil => intro _ h; cases h
    | cons z r ih =>
      intro hn h1 h2
      unfold nmsP at hn
      rw [List.map_cons] at hn
      have hr : (nmsP l r).Nodup := by
        unfold nmsP
        rw [List.filter_cons] at hn
        split at hn
        · exact (List.nodup_cons.1 hn).2
        · exact hn
      have hz : 0 < atP l z.1 → ∀ u ∈ r, atP l u.1 ≠ atP l z.1 := by
        intro hz u hu e
        rw [List.filter_cons, if_pos (by simpa using hz)] at hn
        exact (List.nodup_cons.1 hn).1 (List.mem_filter.2 ⟨List.mem_map.2 ⟨u, hu, e⟩, by simpa using hz⟩)
      rcases List.mem_cons.1 h1 with e1 | h1 <;> rcases List.mem_cons.1 h2 with e2 | h2
      · rw [e1, e2]
      · exact absurd (by rw [← e1]; exact he.symm) (hz (by rw [← e1]; exact hp) y h2)
      · exact absurd (by rw [← e2]; exact he) (hz (by rw [← e2, ← he]; exact hp) x h1)
      · exact ih hr h1 h2
  exact key ys hF.nd hx hy
theorem bad_none {l : List Int} {ys : List (Nat × Nat)} (h : Ch l ys l.length) (hF : Fine l ys) : badP l = false := by
  refine Bool.eq_false_iff.2 fun hb => ?_
  obtain ⟨i, hi, hbad⟩ := (bad_iff l).1 hb
  obtain ⟨x, hx, x1, x2⟩ := h.find hi
  obtain ⟨hE, _, _⟩ := h.mem hx
  have ei := hE.same i x1 x2
  unfold badI at hbad
  rw [Bool.or_eq_true] at hbad
  rcases hbad with hbad | hbad
  · rw [Bool.and_eq_true, decide_eq_true_eq] at hbad
    obtain ⟨h0, hn⟩ := hbad
    have h2 := hF.two x hx (by omega)
    have hle := hE.le
    rw [Bool.not_eq_true', ← Bool.not_eq_true] at hn
    refine hn ((nb_iff l i).2 ?_)
    by_cases e : i + 1 < x.2
    · exact .inr ⟨by omega, by rw [hE.same (i + 1) (by omega) e, ei]⟩
    · exact .inl ⟨by omega, by rw [hE.same (i - 1) (by omega) (by omega), ei]⟩
  · obtain ⟨k, k1, k2, hk⟩ := (sep_any l i).1 hbad
    unfold sepB at hk
    simp at hk
    obtain ⟨⟨h0, e1⟩, e2⟩ := hk
    obtain ⟨y, hy, y1, y2⟩ := h.find k2
    have ek := (h.mem hy).1.same k y1 y2
    have := same_run hF hx hy (by omega) (by omega)
    subst this
    exact e2 (by rw [hE.same (k - 1) (by omega) (by omega), ei])
/-- accepted numbers: the runs are right -/
theorem fine_of {l : List Int} (hc : badP l = false) : ∀ {ys : List (Nat × Nat)} {b : Nat}, Ch l ys b → Fine l ys := by
  intro ys b h
  induction h with
  | nil => exact Fine.nil l
  | @snoc pre f t h1 h2 ih =>
    have hlt : f < l.length := by have := h2.lt; have := h2.le; omega
    by_cases h0 : 0 < atP l f
    · refine ih.put h0 ?_ fun hm => ?_
      · have := h2.lt
        refine Decidable.byContradiction fun hn => ?_
        have e : t = f + 1 := by omega
        subst e
        rw [bad_one h1 h2 h0] at hc; cases hc
      · rw [bad_two h1 hlt h0 hm] at hc; cases hc
    · exact ih.zero h0
theorem chk_zero {l : List Int} : chkP l = 0 ↔ negB l = false ∧ badP l = false := by
  unfold chkP
  cases negB l <;> cases badP l <;> simp
theorem chk_cases (l : List Int) : (negB l = true ∧ chkP l = 2) ∨ (negB l = false ∧ badP l = true ∧ chkP l = 18) ∨ (negB l = false ∧ badP l = false ∧ chkP l = 0) := by
  unfold chkP
  cases negB l <;> cases badP l <;> simp
end Go.Proofs.Ytggbflogndpnoaa
