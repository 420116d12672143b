/- Plain facts: what is sold and cancelled fits. -/
import Derived.Test.YtnakdacnfbgpnaaNesI
namespace Go.Proofs.Ytnakdacnfbgpnaa
open Go.RowKit Go.Shelf
set_option linter.unusedSimpArgs false
set_option linter.unusedVariables false

theorem sumI_set : ∀ (l : List Int) (i : Nat) (a x : Int), l[i]? = some x → sumI (l.set i a) = sumI l + (a - x)
  | [], i, a, x, h => by simp at h
  | y :: r, 0, a, x, h => by
    simp at h
    subst h
    simp only [List.set_cons_zero, sumI]; omega
  | y :: r, i + 1, a, x, h => by
    have := sumI_set r i a x (by simpa using h)
    simp only [List.set_cons_succ, sumI, this]; omega
theorem nsF_wi {s : List Int} {k : Nat} {x : Int} (n : Int) (hx : s[k]? = some x) (j : Nat) : nsF (wiL s k n) j = nsF s j + if j ≤ k then n else 0 := by
  rw [wiL_at hx]
  unfold nsF
  rw [List.drop_set]
  by_cases h : k < j
  · rw [if_pos h, if_neg (by omega), Int.add_zero]
  · rw [if_neg h, if_pos (by omega), sumI_set _ (k - j) (x + n) x (by rw [List.getElem?_drop, show j + (k - j) = k by omega]; exact hx)]
    omega
theorem leF_wi {b : Cb} {s : List Int} {k : Nat} {x : Int} (n : Int) (hx : s[k]? = some x) (j : Nat) : leF b (wiL s k n) j = leF b s j - if j ≤ k then n else 0 := by
  unfold leF
  rw [nsF_wi n hx]
  omega
theorem opF_pos {b : Cb} {s : List Int} {k : Nat} {n : Int} (h1 : 1 ≤ n) (hn : n ≤ opF b s k) (j : Nat) (hj : j ≤ k) : n ≤ leF b s j := by
  have := lsM_le (leF b s) (k + 1) j (by omega)
  unfold opF at hn
  omega
theorem rgt_wi {b : Cb} {s : List Int} {k : Nat} {x n : Int} (hr : rgtB b s = true) (hx : s[k]? = some x) (h0 : 0 ≤ x + n) (h1 : x + n ≤ 9999) : rgtB b (wiL s k n) = true := by
  obtain ⟨hl, ha⟩ := rgtB_yes hr
  unfold rgtB
  rw [wiL_len, Bool.and_eq_true, decide_eq_true_eq, List.all_eq_true]
  refine ⟨hl, fun y hy => ?_⟩
  rw [wiL_at hx] at hy
  have : 0 ≤ y ∧ y ≤ 9999 := by
    rcases List.mem_or_eq_of_mem_set hy with h | h
    · exact ha y h
    · rw [h]; exact ⟨h0, h1⟩
  unfold nOk
  simp only [Bool.and_eq_true, decide_eq_true_eq]
  exact this
theorem sold_le {b : Cb} {s : List Int} {k : Nat} {x : Int} (hr : rgtB b s = true) (hx : s[k]? = some x) : 0 ≤ x ∧ x ≤ 9999 ∧ x ≤ nsF s k := by
  obtain ⟨hl, ha⟩ := rgtB_yes hr
  have h1 := ha x (List.mem_of_getElem? hx)
  have h2 := nsF_step s k x hx
  have h3 := nsF_in s ha (k + 1)
  omega
/-- what is sold is right -/
theorem rgt_sell {b : Cb} {s : List Int} {k : Nat} {x n : Int} (hP : LimP b) (hr : rgtB b s = true) (hx : s[k]? = some x) (h1 : 1 ≤ n) (hn : n ≤ opF b s k) : rgtB b (wiL s k n) = true := by
  have h2 := opF_pos h1 hn k (Nat.le_refl _)
  have h3 := sold_le hr hx
  have h4 := limA_in hP k
  unfold leF at h2
  exact rgt_wi hr hx (by omega) (by omega)
theorem fit_sell {b : Cb} {s : List Int} {k : Nat} {x n : Int} (hP : LimP b) (hf : fitB b s = true) (hx : s[k]? = some x) (h1 : 1 ≤ n) (hn : n ≤ opF b s k) : fitB b (wiL s k n) = true := by
  obtain ⟨hr, hp⟩ := (fitB_iff b s).1 hf
  refine (fitB_iff b _).2 ⟨rgt_sell hP hr hx h1 hn, fun j hj => ?_⟩
  rw [wiL_len] at hj
  rw [leF_wi n hx]
  by_cases h : j ≤ k
  · rw [if_pos h]; have := opF_pos h1 hn j h; omega
  · rw [if_neg h]; have := hp j hj; omega
theorem fit_cancel {b : Cb} {s : List Int} {k : Nat} {x n : Int} (hf : fitB b s = true) (hx : s[k]? = some x) (h1 : 1 ≤ n) (hn : n ≤ x) : fitB b (wiL s k (-n)) = true := by
  obtain ⟨hr, hp⟩ := (fitB_iff b s).1 hf
  have h3 := sold_le hr hx
  refine (fitB_iff b _).2 ⟨rgt_wi hr hx (by omega) (by omega), fun j hj => ?_⟩
  rw [wiL_len] at hj
  rw [leF_wi (-n) hx]
  have := hp j hj
  by_cases h : j ≤ k
  · rw [if_pos h]; omega
  · rw [if_neg h]; omega
theorem lsM_shift {f g : Nat → Int} {n : Int} : ∀ m : Nat, (∀ j, j ≤ m → g j = f j - n) → (∀ j, f j ≤ 9223372036854775807) → (∀ j, g j ≤ 9223372036854775807) → lsM g (m + 1) = lsM f (m + 1) - n
  | 0, h, hf, hg => by
    have h0 := h 0 (Nat.le_refl _)
    have h1 := hf 0
    have h2 := hg 0
    simp only [lsM]
    omega
  | m + 1, h, hf, hg => by
    have ih := lsM_shift m (fun j hj => h j (by omega)) hf hg
    have h0 := h (m + 1) (Nat.le_refl _)
    have e1 : lsM g (m + 1 + 1) = min (lsM g (m + 1)) (g (m + 1)) := rfl
    have e2 : lsM f (m + 1 + 1) = min (lsM f (m + 1)) (f (m + 1)) := rfl
    rw [e1, e2, ih, h0]
    omega
/-- nothing is open in a class where all was sold that was open -/
theorem open_sold {b : Cb} {s : List Int} {k : Nat} {x : Int} (hP : LimP b) (hr : rgtB b s = true) (hx : s[k]? = some x) (h1 : 1 ≤ opF b s k) : opF b (wiL s k (opF b s k)) k = 0 := by
  have hr2 := rgt_sell hP hr hx h1 (Int.le_refl _)
  have he : opF b s k = lsM (leF b s) (k + 1) := by unfold opF at h1 ⊢; omega
  have hs := lsM_shift (f := leF b s) (g := leF b (wiL s k (opF b s k))) (n := opF b s k) k (fun j hj => by rw [leF_wi _ hx, if_pos hj]) (fun j => by have := leF_in hP hr j; omega) (fun j => by have := leF_in hP hr2 j; omega)
  show max (lsM (leF b (wiL s k (opF b s k))) (k + 1)) 0 = 0
  rw [hs, ← he]
  omega
theorem opF_down (b : Cb) (s : List Int) (k : Nat) : opF b s (k + 1) ≤ opF b s k := by
  have := lsM_anti (leF b s) (k + 1)
  unfold opF
  omega
theorem opF_in {b : Cb} {s : List Int} (hP : LimP b) (hr : rgtB b s = true) (k : Nat) : 0 ≤ opF b s k ∧ opF b s k ≤ 400000 := by
  have h5 := lsM_le (leF b s) (k + 1) k (by omega)
  have h6 := leF_in hP hr k
  unfold opF
  omega
theorem wi_back {s : List Int} {k : Nat} {x n : Int} (hx : s[k]? = some x) : wiL (wiL s k n) k (-n) = s := by
  have hk := (List.getElem?_eq_some_iff.1 hx).1
  have h1 : (wiL s k n)[k]? = some (x + n) := by
    rw [wiL_at hx, List.getElem?_set_self (by simpa using hk)]
  rw [wiL_at h1, wiL_at hx, List.set_set, show x + n + -n = x by omega]
  apply List.ext_getElem?
  intro i
  by_cases h : k = i
  · subst h
    rw [List.getElem?_set_self hk, hx]
  · rw [List.getElem?_set_ne h]
/-! ### the errors -/
theorem erP_ok {b : Cb} {s : List Int} {k : Nat} {n : Int} (hr : rgtB b s = true) (hk : k < s.length) (h1 : 1 ≤ n) : erP b s (k : Int) n = 0 := by
  unfold erP
  rw [if_neg (by rw [hr]; simp; omega), if_neg (by omega)]
theorem selE_full {b : Cb} {s : List Int} {k : Nat} (hP : LimP b) (hr : rgtB b s = true) (hk : k < s.length) : selE b s (k : Int) (opF b s k + 1) = 17 := by
  unfold selE
  rw [erP_ok hr hk (by have := opF_in hP hr k; omega), if_pos rfl, Int.toNat_natCast, if_pos (by omega)]
theorem selE_ok {b : Cb} {s : List Int} {k : Nat} {n : Int} (hr : rgtB b s = true) (hk : k < s.length) (h1 : 1 ≤ n) (hn : n ≤ opF b s k) : selE b s (k : Int) n = 0 := by
  unfold selE
  rw [erP_ok hr hk h1, if_pos rfl, Int.toNat_natCast, if_neg (by omega)]
theorem selL_ok {b : Cb} {s : List Int} {k : Nat} {n : Int} (hr : rgtB b s = true) (hk : k < s.length) (h1 : 1 ≤ n) (hn : n ≤ opF b s k) : selL b s (k : Int) n = wiL s k n := by
  unfold selL
  rw [selE_ok hr hk h1 hn, if_pos rfl, Int.toNat_natCast]
theorem sel_zero {b : Cb} {s : List Int} {r n : Int} (h : selE b s r n = 0) : rgtB b s = true ∧ 1 ≤ n ∧ r.toNat < s.length ∧ r = (r.toNat : Int) ∧ n ≤ opF b s r.toNat := by
  unfold selE at h
  by_cases h0 : erP b s r n = 0
  · rw [if_pos h0] at h
    obtain ⟨h1, h2, h3, h4, h5⟩ := erP_zero h0
    refine ⟨h1, h2, h4, h5, ?_⟩
    by_cases hc : opF b s r.toNat < n
    · rw [if_pos hc] at h; omega
    · omega
  · rw [if_neg h0] at h
    exact absurd h h0
theorem can_zero {b : Cb} {s : List Int} {r n : Int} (h : canE b s r n = 0) : ∃ x, s[r.toNat]? = some x ∧ rgtB b s = true ∧ 1 ≤ n ∧ n ≤ x := by
  unfold canE at h
  by_cases h0 : erP b s r n = 0
  · rw [if_pos h0] at h
    obtain ⟨h1, h2, h3, h4, h5⟩ := erP_zero h0
    obtain ⟨x, hx⟩ : ∃ x, s[r.toNat]? = some x := ⟨_, List.getElem?_eq_getElem h4⟩
    refine ⟨x, hx, h1, h2, ?_⟩
    rw [hx] at h
    by_cases hc : x < n
    · rw [Option.getD_some, if_pos hc] at h; omega
    · omega
  · rw [if_neg h0] at h
    exact absurd h h0
theorem canE_one {b : Cb} {s : List Int} {k : Nat} {x n : Int} (hr : rgtB b s = true) (hx : s[k]? = some x) (h1 : 1 ≤ n) : canE b s (k : Int) n = if x < n then 2 else 0 := by
  have hk := (List.getElem?_eq_some_iff.1 hx).1
  unfold canE
  rw [erP_ok hr hk h1, if_pos rfl, Int.toNat_natCast, hx]
  rfl
/-- whatever is sold or cancelled, sales that fit still fit -/
theorem fit_sel {b : Cb} {s : List Int} {r n : Int} (hP : LimP b) (hf : fitB b s = true) (h : selE b s r n = 0) : fitB b (selL b s r n) = true ∧ (selL b s r n).length = s.length := by
  obtain ⟨h1, h2, h3, h4, h5⟩ := sel_zero h
  obtain ⟨x, hx⟩ : ∃ x, s[r.toNat]? = some x := ⟨_, List.getElem?_eq_getElem h3⟩
  unfold selL
  rw [if_pos h]
  exact ⟨fit_sell hP hf hx h2 h5, wiL_len _ _ _⟩
theorem fit_can {b : Cb} {s : List Int} {r n : Int} (hf : fitB b s = true) (h : canE b s r n = 0) : fitB b (canL b s r n) = true ∧ (canL b s r n).length = s.length := by
  obtain ⟨x, hx, h1, h2, h3⟩ := can_zero h
  unfold canL
  rw [if_pos h]
  exact ⟨fit_cancel hf hx h2 h3, wiL_len _ _ _⟩
theorem nsF_zeros (n i : Nat) : nsF (List.replicate n 0) i = 0 := by
  unfold nsF
  rw [List.drop_replicate]
  induction n - i with
  | zero => rfl
  | succ k ih => rw [List.replicate_succ, sumI, ih]; rfl
theorem fit_zeros {b : Cb} (h : RgC b) : fitB b (List.replicate b.l.length 0) = true := by
  refine (fitB_iff b _).2 ⟨?_, fun k hk => ?_⟩
  · unfold rgtB
    rw [List.length_replicate, Bool.and_eq_true, decide_eq_true_eq, List.all_eq_true]
    refine ⟨rfl, fun x hx => ?_⟩
    rw [(List.mem_replicate.1 hx).2]
    rfl
  · rw [List.length_replicate] at hk
    unfold leF
    rw [nsF_zeros]
    have := h.pos k hk
    omega
/-- at most the authorized level is sold -/
theorem sum_le {b : Cb} {s : List Int} (hP : LimP b) (hf : fitB b s = true) : nsF s 0 ≤ b.seats + b.over := by
  obtain ⟨hr, hp⟩ := (fitB_iff b s).1 hf
  obtain ⟨s1, s2, s3, s4⟩ := sizB_in hP.siz
  by_cases h : 0 < s.length
  · have := hp 0 h
    unfold leF at this
    simp only [limA] at this
    omega
  · rw [nsF_end s 0 (by omega)]
    omega
end Go.Proofs.Ytnakdacnfbgpnaa
