/- Join's list and Normal's list are right numbers; what Part and With tell of the one, Groups and Normal of the other. -/
import Derived.Test.YtggbflogndpnoaaMarO
namespace Go.Proofs.Ytggbflogndpnoaa
open Go.RowKit Go.Shelf Go.Maps
set_option linter.unusedSimpArgs false
set_option linter.unusedVariables false

theorem grF_le_of (l : List Int) : ∀ (k j : Nat), j < k → atP l j ≤ grF l k
  | k + 1, j, h => by
    by_cases e : j = k
    · subst e; simp only [grF]; omega
    · have := grF_le_of l k j (by omega)
      simp only [grF]; omega
theorem badI_no {l : List Int} {i : Nat} (h1 : 0 < atP l i → nbB l i = true) (h2 : ∀ k, i + 2 ≤ k → k < l.length → 0 < atP l i → atP l k = atP l i → atP l (k - 1) = atP l i) : badI l i = false := by
  unfold badI
  rw [Bool.or_eq_false_iff]
  constructor
  · by_cases h : 0 < atP l i
    · rw [h1 h]; simp
    · rw [decide_eq_false h]; rfl
  · refine sep_none fun k hk hkl => ?_
    unfold sepB
    by_cases h : 0 < atP l i
    · by_cases e : atP l k = atP l i
      · rw [decide_eq_false (p := atP l (k - 1) ≠ atP l i) (fun hn => hn (h2 k hk hkl h e))]; simp
      · rw [decide_eq_false e]; simp
    · rw [decide_eq_false h]; rfl
theorem badI_nb {l : List Int} {i : Nat} (hb : badP l = false) (hi : i < l.length) (h : 0 < atP l i) : (0 < i ∧ atP l (i - 1) = atP l i) ∨ (i + 1 < l.length ∧ atP l (i + 1) = atP l i) := by
  have h1 : badI l i = false := by
    rw [← Bool.not_eq_true]
    intro h2
    have := (bad_iff l).2 ⟨i, hi, h2⟩
    rw [hb] at this; cases this
  unfold badI at h1
  rw [Bool.or_eq_false_iff, decide_eq_true h] at h1
  have h2 : nbB l i = true := by simpa using h1.1
  exact (nb_iff l i).1 h2
theorem badI_sep {l : List Int} {i k : Nat} (hb : badP l = false) (hi : i + 2 ≤ k) (hk : k < l.length) (h : 0 < atP l i) (e : atP l k = atP l i) : atP l (k - 1) = atP l i := by
  have h1 : badI l i = false := by
    rw [← Bool.not_eq_true]
    intro h2
    have := (bad_iff l).2 ⟨i, by omega, h2⟩
    rw [hb] at this; cases this
  unfold badI at h1
  rw [Bool.or_eq_false_iff] at h1
  refine Decidable.byContradiction fun hn => ?_
  have := (sep_any l i).2 ⟨k, hi, hk, by unfold sepB; rw [decide_eq_true h, decide_eq_true e, decide_eq_true hn]; rfl⟩
  rw [h1.2] at this; cases this

/-! ### Join -/
structure JoinF (l : List Int) (u v : Nat) : Prop where
  chk : chkP l = 0
  lt : u < v
  le : v < l.length
  zero : ∀ j, u ≤ j → j ≤ v → atP l j = 0
  lst : joinP l (u : Int) (v : Int) = setP l u (v + 1) (grP l + 1)
theorem join_zero {l : List Int} {a b : Int} (h : joinE l a b = 0) : ∃ u v : Nat, a = (u : Int) ∧ b = (v : Int) ∧ JoinF l u v := by
  have h0 := h
  unfold joinE at h
  split at h
  · exact absurd h (by assumption)
  rename_i h1
  split at h
  · cases h
  rename_i h2
  split at h
  · cases h
  rename_i h3
  have hc : chkP l = 0 := Decidable.byContradiction h1
  obtain ⟨u, rfl⟩ : ∃ u : Nat, a = (u : Int) := ⟨a.toNat, by omega⟩
  obtain ⟨v, rfl⟩ : ∃ v : Nat, b = (v : Int) := ⟨b.toNat, by omega⟩
  refine ⟨u, v, rfl, rfl, hc, by omega, by omega, fun j h4 h5 => ?_, ?_⟩
  · have h6 := neg_no (chk_zero.1 hc).1 j
    refine Decidable.byContradiction fun hn => h3 ?_
    rw [Int.toNat_natCast, Int.toNat_natCast]
    exact mrd_yes (d := j - u) (by omega) (by rw [show u + (j - u) = j by omega]; omega)
  · unfold joinP
    rw [if_pos h0, Int.toNat_natCast, Int.toNat_natCast]
theorem set_at {l : List Int} {u v : Nat} {x : Int} {j : Nat} (hj : j < l.length) : atP (setP l u (v + 1) x) j = if u ≤ j ∧ j < u + (v + 1 - u) then x else atP l j := by
  unfold setP
  rw [atP_tab hj]
  rfl
theorem set_in {l : List Int} {u v : Nat} {x : Int} {j : Nat} (hj : j < l.length) (h1 : u ≤ j) (h2 : j ≤ v) : atP (setP l u (v + 1) x) j = x := by
  rw [set_at hj, if_pos (by omega)]
theorem set_out {l : List Int} {u v : Nat} {x : Int} {j : Nat} (hj : j < l.length) (h : j < u ∨ v < j) : atP (setP l u (v + 1) x) j = atP l j := by
  rw [set_at hj, if_neg (by omega)]
theorem JoinF.ok {l : List Int} {u v : Nat} (h : JoinF l u v) : chkP (setP l u (v + 1) (grP l + 1)) = 0 := by
  have hneg := (chk_zero.1 h.chk).1
  have hbad := (chk_zero.1 h.chk).2
  have hlen := setP_len l u (v + 1) (grP l + 1)
  have hx : ∀ j, j < l.length → atP l j < grP l + 1 := fun j hj => by have := grF_le_of l l.length j hj; unfold grP; omega
  have h0 : 0 ≤ grP l := grF_ge l _
  have huv := h.lt
  have hvn := h.le
  refine chk_zero.2 ⟨neg_none fun j hj => ?_, bad_no fun i hi => badI_no (fun hp => ?_) fun k hk hkl hp he => ?_⟩
  · rw [hlen] at hj
    by_cases e : u ≤ j ∧ j ≤ v
    · rw [set_in hj e.1 e.2]; omega
    · rw [set_out hj (by omega)]; exact neg_no hneg j
  · rw [hlen] at hi
    unfold nbB
    rw [nb_iff, hlen]
    by_cases e : u ≤ i ∧ i ≤ v
    · rw [set_in hi e.1 e.2]
      by_cases e2 : i < v
      · exact .inr ⟨by omega, set_in (by omega) (by omega) (by omega)⟩
      · exact .inl ⟨by omega, set_in (by omega) (by omega) (by omega)⟩
    · rw [set_out hi (by omega)] at hp ⊢
      rcases badI_nb hbad hi hp with ⟨a1, a2⟩ | ⟨a1, a2⟩
      · refine .inl ⟨a1, ?_⟩
        rw [set_out (by omega) (by
          refine Decidable.byContradiction fun hn => ?_
          have := h.zero (i - 1) (by omega) (by omega)
          omega)]
        exact a2
      · refine .inr ⟨a1, ?_⟩
        rw [set_out a1 (by
          refine Decidable.byContradiction fun hn => ?_
          have := h.zero (i + 1) (by omega) (by omega)
          omega)]
        exact a2
  · rw [hlen] at hi hkl
    by_cases e : u ≤ i ∧ i ≤ v
    · rw [set_in hi e.1 e.2] at he ⊢
      have hkv : u ≤ k ∧ k ≤ v := by
        refine Decidable.byContradiction fun hn => ?_
        rw [set_out hkl (by omega)] at he
        have := hx k hkl
        omega
      exact set_in (by omega) (by omega) (by omega)
    · rw [set_out hi (by omega)] at he hp ⊢
      have hko : k < u ∨ v < k := by
        refine Decidable.byContradiction fun hn => ?_
        rw [set_in hkl (by omega) (by omega)] at he
        have := hx i hi
        omega
      rw [set_out hkl hko] at he
      have h9 := badI_sep hbad hk hkl hp he
      rw [set_out (by omega) (by
        refine Decidable.byContradiction fun hn => ?_
        have := h.zero (k - 1) (by omega) (by omega)
        omega)]
      exact h9
theorem JoinF.wi {l : List Int} {u v : Nat} (h : JoinF l u v) {i : Nat} (h1 : u ≤ i) (h2 : i ≤ v) (j : Nat) (hj : j < l.length) : wiB (setP l u (v + 1) (grP l + 1)) i j = true ↔ u ≤ j ∧ j < v + 1 := by
  have h0 : 0 ≤ grP l := grF_ge l _
  have hx : atP l j < grP l + 1 := by have := grF_le_of l l.length j hj; unfold grP; omega
  have hvn := h.le
  unfold wiB
  rw [Bool.or_eq_true, Bool.and_eq_true, decide_eq_true_eq, decide_eq_true_eq, decide_eq_true_eq, set_in (l := l) (u := u) (v := v) (j := i) (by omega) h1 h2]
  by_cases e : u ≤ j ∧ j ≤ v
  · rw [set_in hj e.1 e.2]
    omega
  · rw [set_out hj (by omega)]
    omega
theorem JoinF.with {l : List Int} {u v : Nat} (h : JoinF l u v) {i : Nat} (h1 : u ≤ i) (h2 : i ≤ v) : inE (joinP l (u : Int) (v : Int)) (i : Int) = 0 ∧ withP (joinP l (u : Int) (v : Int)) (i : Int) = rgP u (v + 1) ∧ partP (joinP l (u : Int) (v : Int)) (i : Int) = l := by
  rw [h.lst]
  have hlen := setP_len l u (v + 1) (grP l + 1)
  have hvn := h.le
  have hin : inE (setP l u (v + 1) (grP l + 1)) (i : Int) = 0 := by
    rw [in_err h.ok, if_neg (by rw [hlen]; omega)]
  refine ⟨hin, ?_, ?_⟩
  · unfold withP
    rw [if_pos hin, Int.toNat_natCast]
    unfold wiP
    exact filter_rg u (v + 1) _ (by omega) (by rw [hlen]; omega) _ (fun j hj => h.wi h1 h2 j (by rw [hlen] at hj; exact hj))
  · unfold partP
    rw [if_pos hin, Int.toNat_natCast]
    unfold prtP
    rw [hlen]
    refine Eq.trans (tab_ext fun j hj => ?_) (tab_atP l)
    by_cases e : u ≤ j ∧ j ≤ v
    · rw [if_pos ((h.wi h1 h2 j hj).2 (by omega)), h.zero j e.1 e.2]
    · rw [if_neg (fun h9 => by have := (h.wi h1 h2 j hj).1 h9; omega), set_out hj (by omega)]

/-! ### Normal -/
theorem nrm_at {l : List Int} (hc : chkP l = 0) {i : Nat} (hi : i < l.length) : atP (nrmP l) i = nmP l i := by
  unfold nrmP
  rw [if_pos hc, atP_tab hi]
theorem nrm_length {l : List Int} (hc : chkP l = 0) : (nrmP l).length = l.length := by
  unfold nrmP
  rw [if_pos hc, tab_len]
theorem cnt_step_no {l : List Int} {k : Nat} (h : staB l k = false) : cntP l (k + 1) = cntP l k := by
  show cntP l k + _ = _
  rw [if_neg (by rw [h]; simp), Int.add_zero]
theorem cnt_step_yes {l : List Int} {k : Nat} (h : staB l k = true) (hp : 0 < atP l k) : cntP l (k + 1) = cntP l k + 1 := by
  show cntP l k + _ = _
  rw [if_pos ⟨h, hp⟩]
theorem cnt_mono (l : List Int) (i : Nat) : ∀ k : Nat, i ≤ k → cntP l i ≤ cntP l k
  | 0, h => by rw [show i = 0 by omega]; exact Int.le_refl _
  | k + 1, h => by
    by_cases e : i = k + 1
    · rw [e]; exact Int.le_refl _
    · have := cnt_mono l i k (by omega)
      show _ ≤ cntP l k + _
      split <;> omega
theorem cnt_pos {l : List Int} : ∀ i : Nat, 0 < atP l i → 1 ≤ cntP l (i + 1)
  | 0, h => by rw [cnt_step_yes rfl h]; simp [cntP]
  | i + 1, h => by
    cases hs : staB l (i + 1)
    · obtain ⟨_, _, h3⟩ := (sta_no l (i + 1)).1 hs
      rw [cnt_step_no hs]
      exact cnt_pos i (by rw [show i = i + 1 - 1 by omega, ← h3]; exact h)
    · rw [cnt_step_yes hs h]
      have := (cnt_in l (i + 1)).1
      omega
theorem nm_yes {l : List Int} {i : Nat} (h : 0 < atP l i) : nmP l i = cntP l (i + 1) := by unfold nmP; rw [if_pos h]
theorem nm_no {l : List Int} {i : Nat} (h : ¬ 0 < atP l i) : nmP l i = 0 := by unfold nmP; rw [if_neg h]
theorem nm_pos {l : List Int} {i : Nat} : 0 < nmP l i ↔ 0 < atP l i := by
  by_cases h : 0 < atP l i
  · rw [nm_yes h]; have := cnt_pos i h; omega
  · rw [nm_no h]; omega
theorem nrm_sta {l : List Int} (hc : chkP l = 0) {i : Nat} (hi : i < l.length) : staB (nrmP l) i = staB l i := by
  cases hs : staB l i
  · obtain ⟨h1, h2, h3⟩ := (sta_no l i).1 hs
    refine (sta_no _ i).2 ⟨h1, ?_, ?_⟩
    · rw [nrm_at hc hi]; exact nm_pos.2 h2
    · rw [nrm_at hc hi, nrm_at hc (by omega), nm_yes h2, nm_yes (by rw [← h3]; exact h2), cnt_step_no hs, show i - 1 + 1 = i by omega]
  · refine (sta_iff _ i).2 ?_
    by_cases h0 : i = 0
    · exact .inl h0
    · right
      rw [nrm_at hc hi, nrm_at hc (show i - 1 < l.length by omega)]
      by_cases hp : 0 < atP l i
      · right
        rw [nm_yes hp, cnt_step_yes hs hp]
        by_cases hq : 0 < atP l (i - 1)
        · rw [nm_yes hq, show i - 1 + 1 = i by omega]; omega
        · rw [nm_no hq]; have := (cnt_in l i).1; omega
      · left; rw [nm_no hp]; exact Int.le_refl _
theorem nrm_cnt {l : List Int} (hc : chkP l = 0) : ∀ k : Nat, k ≤ l.length → cntP (nrmP l) k = cntP l k
  | 0, _ => rfl
  | k + 1, h => by
    show cntP (nrmP l) k + _ = cntP l k + _
    rw [nrm_cnt hc k (by omega), nrm_sta hc (by omega), nrm_at hc (by omega)]
    have := nm_pos (l := l) (i := k)
    by_cases e : staB l k = true ∧ 0 < atP l k
    · rw [if_pos ⟨e.1, this.2 e.2⟩, if_pos e]
    · rw [if_neg (fun h => e ⟨h.1, this.1 h.2⟩), if_neg e]
theorem nrm_ok {l : List Int} (hc : chkP l = 0) : chkP (nrmP l) = 0 := by
  have hbad := (chk_zero.1 hc).2
  have hlen := nrm_length hc
  refine chk_zero.2 ⟨neg_none fun j hj => ?_, bad_no fun i hi => badI_no (fun hp => ?_) fun k hk hkl hp he => ?_⟩
  · rw [hlen] at hj
    rw [nrm_at hc hj]
    by_cases h : 0 < atP l j
    · exact Int.le_of_lt (nm_pos.2 h)
    · rw [nm_no h]; exact Int.le_refl _
  · rw [hlen] at hi
    unfold nbB
    rw [nb_iff, hlen, nrm_at hc hi]
    rw [nrm_at hc hi] at hp
    have hp := nm_pos.1 hp
    rcases badI_nb hbad hi hp with ⟨a1, a2⟩ | ⟨a1, a2⟩
    · refine .inl ⟨a1, ?_⟩
      have hs : staB l i = false := (sta_no l i).2 ⟨a1, hp, a2.symm⟩
      rw [nrm_at hc (by omega), nm_yes hp, nm_yes (by rw [a2]; exact hp), cnt_step_no hs, show i - 1 + 1 = i by omega]
    · refine .inr ⟨a1, ?_⟩
      have hs : staB l (i + 1) = false := (sta_no l (i + 1)).2 ⟨by omega, by rw [a2]; exact hp, by rw [show i + 1 - 1 = i by omega]; exact a2⟩
      rw [nrm_at hc a1, nm_yes hp, nm_yes (by rw [a2]; exact hp), cnt_step_no hs]
  · rw [hlen] at hi hkl
    rw [nrm_at hc hi] at hp he ⊢
    rw [nrm_at hc hkl] at he
    have hpi := nm_pos.1 hp
    have hpk : 0 < atP l k := nm_pos.1 (by rw [he]; exact hp)
    rw [nm_yes hpi, nm_yes hpk] at he
    have m1 := cnt_mono l (i + 1) k (by omega)
    have m2 := cnt_mono l k (k + 1) (by omega)
    have hs : staB l k = false := by
      cases h : staB l k
      · rfl
      · have := cnt_step_yes h hpk
        omega
    obtain ⟨_, _, h3⟩ := (sta_no l k).1 hs
    rw [nrm_at hc (by omega), nm_yes (by rw [← h3]; exact hpk), nm_yes hpi, show k - 1 + 1 = k by omega]
    omega
theorem nrm_groups {l : List Int} (hc : chkP l = 0) : grpP (nrmP l) = grpP l := by
  unfold grpP
  rw [if_pos hc, if_pos (nrm_ok hc), nrm_length hc]
  have key : ∀ k : Nat, k ≤ l.length → gP (nrmP l) k = gP l k := by
    intro k
    induction k with
    | zero => intro _; rfl
    | succ k ih =>
      intro h
      show (if staB (nrmP l) k = true then _ else _) = (if staB l k = true then _ else _)
      rw [ih (by omega), nrm_sta hc (by omega)]
  exact key _ (Nat.le_refl _)
theorem nrm_twice {l : List Int} (hc : chkP l = 0) : nrmP (nrmP l) = nrmP l := by
  have h1 : nrmP (nrmP l) = tab (nmP (nrmP l)) l.length := by
    rw [show nrmP (nrmP l) = if chkP (nrmP l) = 0 then tab (nmP (nrmP l)) (nrmP l).length else [] from rfl, if_pos (nrm_ok hc), nrm_length hc]
  rw [h1]
  rw [show nrmP l = tab (nmP l) l.length from by unfold nrmP; rw [if_pos hc]]
  refine tab_ext fun j hj => ?_
  have h2 : nmP (nrmP l) j = nmP l j := by
    by_cases h : 0 < atP l j
    · rw [nm_yes h, nm_yes (by rw [nrm_at hc hj]; exact nm_pos.2 h), nrm_cnt hc _ (by omega)]
    · rw [nm_no h, nm_no (by rw [nrm_at hc hj, nm_no h]; omega)]
  rw [show tab (nmP l) l.length = nrmP l from by unfold nrmP; rw [if_pos hc]]
  exact h2
theorem nrm_i64 {l : List Int} (hl : l.length ≤ 1000) : I64L (nrmP l) := by
  intro x hx
  unfold nrmP at hx
  split at hx
  · obtain ⟨i, hi, rfl⟩ := List.mem_map.1 hx
    rw [List.mem_range] at hi
    by_cases h : 0 < atP l i
    · rw [nm_yes h]; have := cnt_in l (i + 1); omega
    · rw [nm_no h]; omega
  · cases hx
theorem set_i64 {l : List Int} {u v : Nat} {x : Int} (hi : I64L l) (hx : -9223372036854775808 ≤ x ∧ x ≤ 9223372036854775807) : I64L (setP l u v x) := by
  intro y hy
  unfold setP at hy
  obtain ⟨i, hq, rfl⟩ := List.mem_map.1 hy
  rw [List.mem_range] at hq
  unfold ovP
  split
  · exact hx
  · exact hi _ (List.mem_of_getElem? (atP_get hq))
end Go.Proofs.Ytggbflogndpnoaa
