/- The plain half of the division into shares: what remains is less than there are weights; the order is one; the shares add up. -/
import Derived.Test.YtalnocdgmcchaaaDoorMoneyH
namespace Go.Proofs.YtalnocdgmcchaaaDoor
open Go.RowKit Go.Sort
set_option linter.unusedSimpArgs false
set_option linter.unusedVariables false

/-- a list by its places -/
def tab (f : Nat → Int) (n : Nat) : List Int := (List.range n).map f
theorem tab_len (f : Nat → Int) (n : Nat) : (tab f n).length = n := by simp [tab]
theorem tab_get (f : Nat → Int) (n k : Nat) (h : k < (tab f n).length) : (tab f n)[k] = f k := by simp [tab]
theorem tab_congr {f g : Nat → Int} {n : Nat} (h : ∀ i, i < n → f i = g i) : tab f n = tab g n := by
  unfold tab
  exact List.map_congr_left (fun i hi => h i (List.mem_range.1 hi))
theorem tab_set (f : Nat → Int) (n k : Nat) (x : Int) : (tab f n).set k x = tab (fun i => if i = k then x else f i) n := by
  apply List.ext_getElem
  · simp [tab]
  · intro i h1 h2
    rw [List.getElem_set]
    simp only [tab, List.getElem_map, List.getElem_range]
    by_cases e : k = i
    · subst e; simp
    · rw [if_neg e, if_neg (fun e2 => e e2.symm)]
theorem tab_of_list (l : List Int) : l = tab (fun i => l.getD i 0) l.length := by
  apply List.ext_getElem
  · simp [tab]
  · intro i h1 h2
    simp only [tab, List.getElem_map, List.getElem_range]
    rw [List.getD_eq_getElem?_getD, List.getElem?_eq_getElem h1]; rfl

def psum (f : Nat → Nat) : Nat → Nat
  | 0 => 0
  | k + 1 => psum f k + f k
/-- a weight -/
def wN (ws : List Int) (i : Nat) : Nat := (ws.getD i 0).toNat
def tN (ws : List Int) : Nat := (wsum ws).toNat
def qN (a : Int) (ws : List Int) (i : Nat) : Nat := a.natAbs * wN ws i / tN ws
def rN (a : Int) (ws : List Int) (i : Nat) : Nat := a.natAbs * wN ws i % tN ws
/-- what remains to be given out -/
def lN (a : Int) (ws : List Int) : Nat := a.natAbs - psum (qN a ws) ws.length
def remL (a : Int) (ws : List Int) : List Int := tab (fun i => (rN a ws i : Int)) ws.length
def sg (a x : Int) : Int := if a < 0 then -x else x
def upN (a : Int) (ws : List Int) (ord : List Nat) (k i : Nat) : Int := (qN a ws i : Int) + (if i ∈ ord.take k then 1 else 0)
def shareF (a : Int) (ws : List Int) (ord : List Nat) (i : Nat) : Int := sg a (upN a ws ord (lN a ws) i)

/-- weights by which can be divided -/
structure Good (ws : List Int) : Prop where
  nn : ∀ x ∈ ws, 0 ≤ x
  pos : 0 < wsum ws
  le : wsum ws ≤ 1099511627776
theorem good_of {ws : List Int} {T : Int} (h : weighR ws = (T, 0)) : Good ws ∧ T = (tN ws : Int) := by
  unfold weighR at h
  split at h
  · simp at h
  rename_i h1
  split at h
  · simp at h
  split at h
  · simp at h
  rename_i h2 h3
  have hnn : ∀ x ∈ ws, 0 ≤ x := fun x hx => by
    rw [List.any_eq_true] at h1
    rcases Int.lt_or_le x 0 with h4 | h4
    · exact absurd ⟨x, hx, by simpa using h4⟩ h1
    · exact h4
  have h0 := wsum_nonneg ws hnn
  refine ⟨⟨hnn, by omega, by omega⟩, ?_⟩
  simp only [Prod.mk.injEq] at h
  unfold tN; omega
section
variable {a : Int} {ws : List Int}
theorem Good.tpos (G : Good ws) : 0 < tN ws := by have := G.pos; unfold tN; omega
theorem Good.tle (G : Good ws) : tN ws ≤ 1099511627776 := by have := G.le; unfold tN; omega
theorem Good.len (G : Good ws) : 0 < ws.length := by
  rcases Nat.eq_zero_or_pos ws.length with h | h
  · have := List.eq_nil_of_length_eq_zero h
    have h2 := G.pos
    rw [this] at h2; simp [wsum] at h2
  · exact h
theorem wN_get (G : Good ws) (k : Nat) (h : k < ws.length) : ws[k] = (wN ws k : Int) := by
  have h1 := G.nn ws[k] (List.getElem_mem h)
  unfold wN
  rw [List.getD_eq_getElem?_getD, List.getElem?_eq_getElem h]
  simp only [Option.getD_some]
  omega
theorem wsum_take_N (G : Good ws) : ∀ k, k ≤ ws.length → wsum (ws.take k) = (psum (wN ws) k : Int)
  | 0, _ => by rw [List.take_zero]; rfl
  | k + 1, h => by
    rw [wsum_take_step ws k (by omega), wsum_take_N G k (by omega), wN_get G k (by omega), psum]
    simp
theorem psum_all (G : Good ws) : psum (wN ws) ws.length = tN ws := by
  have h := wsum_take_N G ws.length (Nat.le_refl _)
  rw [List.take_length] at h
  unfold tN; omega
theorem psum_le (G : Good ws) (k : Nat) (h : k ≤ ws.length) : psum (wN ws) k ≤ tN ws := by
  have h1 := wsum_take_N G k h
  have h2 := wsum_take_le ws k G.nn
  unfold tN; omega
theorem wN_le (G : Good ws) (k : Nat) (h : k < ws.length) : wN ws k ≤ tN ws := by
  have := psum_le G (k + 1) h
  rw [psum] at this; omega
theorem qr_sum (G : Good ws) (a : Int) : ∀ k, a.natAbs * psum (wN ws) k = tN ws * psum (qN a ws) k + psum (rN a ws) k ∧ psum (rN a ws) k ≤ k * (tN ws - 1)
  | 0 => by simp [psum]
  | k + 1 => by
    obtain ⟨h1, h2⟩ := qr_sum G a k
    have h3 := Nat.div_add_mod (a.natAbs * wN ws k) (tN ws)
    have h4 := Nat.mod_lt (a.natAbs * wN ws k) G.tpos
    simp only [psum, Nat.mul_add, Nat.add_mul, Nat.one_mul]
    unfold qN rN at *
    omega
theorem q_le (G : Good ws) (a : Int) (k : Nat) (h : k ≤ ws.length) : psum (qN a ws) k ≤ a.natAbs := by
  obtain ⟨h1, _⟩ := qr_sum G a k
  have h2 : a.natAbs * psum (wN ws) k ≤ a.natAbs * tN ws := Nat.mul_le_mul_left _ (psum_le G k h)
  have h3 : tN ws * psum (qN a ws) k ≤ tN ws * a.natAbs := by rw [Nat.mul_comm (tN ws) a.natAbs]; omega
  exact Nat.le_of_mul_le_mul_left h3 G.tpos
theorem l_rem (G : Good ws) (a : Int) : tN ws * lN a ws = psum (rN a ws) ws.length := by
  obtain ⟨h1, _⟩ := qr_sum G a ws.length
  rw [psum_all G] at h1
  unfold lN
  rw [Nat.mul_sub, Nat.mul_comm (tN ws) a.natAbs]
  omega
theorem l_lt (G : Good ws) (a : Int) : lN a ws < ws.length := by
  have h1 := l_rem G a
  obtain ⟨_, h2⟩ := qr_sum G a ws.length
  have h3 := G.tpos
  have h4 := G.len
  rcases Nat.lt_or_ge (lN a ws) ws.length with h | h
  · exact h
  · exfalso
    have h5 : tN ws * ws.length ≤ tN ws * lN a ws := Nat.mul_le_mul_left _ h
    have h6 : ws.length * (tN ws - 1) + ws.length = tN ws * ws.length := by
      rw [Nat.mul_sub, Nat.mul_one, Nat.mul_comm]
      have : ws.length ≤ tN ws * ws.length := Nat.le_mul_of_pos_left _ h3
      omega
    omega
theorem l_eq (G : Good ws) (a : Int) : (a.natAbs : Int) - (psum (qN a ws) ws.length : Int) = (lN a ws : Int) := by
  have := q_le G a ws.length (Nat.le_refl _)
  unfold lN; omega
theorem qN_le (G : Good ws) (a : Int) (k : Nat) (h : k < ws.length) : qN a ws k ≤ a.natAbs := by
  have := q_le G a (k + 1) h
  rw [psum] at this; omega
end

/-! ### the order is one -/
theorem ordered_nodup {rem : List Int} {ord : List Nat} (O : Ordered rem ord) : ord.Nodup := O.perm.nodup_iff.2 List.nodup_range
theorem ordered_lt {rem : List Int} {ord : List Nat} (O : Ordered rem ord) (k : Nat) (h : k < ord.length) : ord[k] < rem.length := by
  have := O.perm.mem_iff.1 (List.getElem_mem h)
  exact List.mem_range.1 this
/-- i goes ahead of j -/
def Ahead (rem : List Int) (i j : Nat) : Prop := rem.getD j 0 < rem.getD i 0 ∨ (rem.getD j 0 = rem.getD i 0 ∧ i < j)
theorem ordered_ahead {rem : List Int} {ord : List Nat} (O : Ordered rem ord) (i j : Nat) (hij : i < j) (hj : j < ord.length) : Ahead rem (ord[i]'(by omega)) ord[j] := by
  have h := O.sorted i j hij hj
  have hne : ord[i]'(by omega) ≠ ord[j] := List.pairwise_iff_getElem.1 (ordered_nodup O) i j (by omega) hj hij
  unfold Ahead
  omega
theorem eq_of_sorted {r : Nat → Nat → Prop} (irr : ∀ x, ¬ r x x) (tr : ∀ x y z, r x y → r y z → r x z) : ∀ (l m : List Nat), l.Perm m → l.Pairwise r → m.Pairwise r → l = m
  | [], m, h, _, _ => (List.nil_perm.1 h).symm
  | x :: l, [], h, _, _ => absurd (List.perm_nil.1 h) (by simp)
  | x :: l, y :: m, h, h1, h2 => by
    have e : x = y := by
      have hx : x ∈ y :: m := h.mem_iff.1 (List.mem_cons_self ..)
      have hy : y ∈ x :: l := h.mem_iff.2 (List.mem_cons_self ..)
      rcases List.mem_cons.1 hx with hx | hx
      · exact hx
      rcases List.mem_cons.1 hy with hy | hy
      · exact hy.symm
      · exact absurd (tr _ _ _ ((List.pairwise_cons.1 h1).1 y hy) ((List.pairwise_cons.1 h2).1 x hx)) (irr _)
    subst e
    rw [eq_of_sorted irr tr l m (List.Perm.cons_inv h) (List.pairwise_cons.1 h1).2 (List.pairwise_cons.1 h2).2]
theorem ordered_pairwise {rem : List Int} {ord : List Nat} (O : Ordered rem ord) : ord.Pairwise (Ahead rem) := by
  rw [List.pairwise_iff_getElem]
  intro i j hi hj hij
  exact ordered_ahead O i j hij hj
theorem ordered_one {rem : List Int} {o1 o2 : List Nat} (h1 : Ordered rem o1) (h2 : Ordered rem o2) : o1 = o2 :=
  eq_of_sorted (r := Ahead rem) (fun x h => by unfold Ahead at h; omega) (fun x y z h1 h2 => by unfold Ahead at *; omega) o1 o2 (h1.perm.trans h2.perm.symm) (ordered_pairwise h1) (ordered_pairwise h2)
end Go.Proofs.YtalnocdgmcchaaaDoor
