/- With, Part, Join. -/
import Derived.Test.YtggbflogndpnoaaMarG
namespace Go.Proofs.Ytggbflogndpnoaa
open Go.RowKit Go.Shelf Go.Maps
set_option linter.unusedSimpArgs false
set_option linter.unusedVariables false

/-- the segments that are sold with a segment -/
def wiB (l : List Int) (a i : Nat) : Bool := decide (i = a) || (decide (0 < atP l i) && decide (atP l i = atP l a))
def wiP (l : List Int) (a : Nat) : List Int := ((List.range l.length).filter (wiB l a)).map fun (i : Nat) => (i : Int)
/-- the error of an index -/
def inE (l : List Int) (i : Int) : Int := if chkP l ≠ 0 then chkP l else if i < 0 ∨ (l.length : Int) ≤ i then 2 else 0
def withP (l : List Int) (i : Int) : List Int := if inE l i = 0 then wiP l i.toNat else []
def prtP (l : List Int) (a : Nat) : List Int := tab (fun j => if wiB l a j = true then 0 else atP l j) l.length
def partP (l : List Int) (i : Int) : List Int := if inE l i = 0 then prtP l i.toNat else []
/-- in right numbers, who goes with whom lies in a run -/
theorem wi_run {l : List Int} (hc : chkP l = 0) {a b i : Nat} {pre : List (Nat × Nat)} (h : Ch l pre a) (he : IsEnd l a b) (h1 : a ≤ i) (h2 : i < b) (j : Nat) (hj : j < l.length) : wiB l i j = true ↔ a ≤ j ∧ j < b := by
  obtain ⟨ys, hys⟩ := exists_runs l
  have hF := fine_of (chk_zero.1 hc).2 hys
  have hb := he.le
  obtain ⟨x, hx, x1, x2⟩ := hys.find (i := i) (by omega)
  obtain ⟨hE, _, hs⟩ := hys.mem hx
  -- the run of the chain is this one
  have hsa := h.start (by have := he.lt; omega)
  have hxa : x.1 = a := by
    rcases Nat.lt_trichotomy x.1 a with hlt | e | hlt
    · have := (hE.inner hlt (by omega)).1
      rw [this] at hsa; cases hsa
    · exact e
    · have := (he.inner hlt (by omega)).1
      rw [this] at hs; cases hs
  have hxb : x.2 = b := by
    by_cases hp : 0 < atP l a
    · rcases Nat.lt_trichotomy x.2 b with hlt | e | hlt
      · have h3 := hE.stop (by rw [hxa]; exact hp) (by omega)
        have h4 := he.same x.2 (by have := hE.lt; omega) hlt
        rw [hxa] at h3
        exact absurd h4 h3
      · exact e
      · have h3 := he.stop hp (by have := hE.le; omega)
        have h4 := hE.same b (by rw [hxa]; exact Nat.le_of_lt he.lt) hlt
        rw [hxa] at h4
        exact absurd h4 h3
    · rw [he.one hp, hE.one (by rw [hxa]; exact hp), hxa]
  have ei := he.same i h1 h2
  unfold wiB
  rw [Bool.or_eq_true, Bool.and_eq_true, decide_eq_true_eq, decide_eq_true_eq, decide_eq_true_eq]
  constructor
  · rintro (rfl | ⟨h3, h4⟩)
    · exact ⟨h1, h2⟩
    · obtain ⟨y, hy, y1, y2⟩ := hys.find hj
      have ey := (hys.mem hy).1.same j y1 y2
      have := same_run hF hx hy (by rw [hxa]; omega) (by rw [hxa]; omega)
      subst this
      omega
  · rintro ⟨h3, h4⟩
    have ej := he.same j h3 h4
    by_cases hp : 0 < atP l a
    · exact .inr ⟨by omega, by omega⟩
    · have := he.one hp
      exact .inl (by omega)
theorem filter_rg (a b n : Nat) (hab : a ≤ b) (hb : b ≤ n) (p : Nat → Bool) (hp : ∀ j, j < n → (p j = true ↔ a ≤ j ∧ j < b)) : ((List.range n).filter p).map (fun (i : Nat) => (i : Int)) = rgP a b := by
  have key : ∀ k, k ≤ n → ((List.range k).filter p).map (fun (i : Nat) => (i : Int)) = rgP a (min (max a k) b) := by
    intro k
    induction k with
    | zero => intro _; simp [rgP, tab, Nat.min_def]; split <;> simp_all
    | succ k ih =>
      intro hk
      rw [List.range_succ, List.filter_append, List.map_append, ih (by omega)]
      have hpk := hp k (by omega)
      by_cases h : a ≤ k ∧ k < b
      · have e : p k = true := hpk.2 h
        have e1 : min (max a k) b = k := by omega
        have e2 : min (max a (k + 1)) b = k + 1 := by omega
        rw [e1, e2, rgP_snoc h.1]
        simp [e]
      · have e : p k = false := Bool.eq_false_iff.2 (fun h2 => h (hpk.1 h2))
        have e2 : min (max a (k + 1)) b = min (max a k) b := by omega
        rw [e2]
        simp [e]
  have := key n (Nat.le_refl _)
  rw [this]
  congr 1
  omega
theorem wi_rg {l : List Int} (hc : chkP l = 0) {a b i : Nat} {pre : List (Nat × Nat)} (h : Ch l pre a) (he : IsEnd l a b) (h1 : a ≤ i) (h2 : i < b) : wiP l i = rgP a b :=
  filter_rg a b l.length (Nat.le_of_lt he.lt) he.le _ (wi_run hc h he h1 h2)
theorem prt_set {l : List Int} (hc : chkP l = 0) {a b i : Nat} {pre : List (Nat × Nat)} (h : Ch l pre a) (he : IsEnd l a b) (h1 : a ≤ i) (h2 : i < b) : prtP l i = setP l a b 0 := by
  unfold prtP setP
  refine tab_ext fun j hj => ?_
  have := wi_run hc h he h1 h2 j hj
  have := he.lt
  unfold ovP
  by_cases e : a ≤ j ∧ j < b
  · rw [if_pos ((wi_run hc h he h1 h2 j hj).2 e), if_pos (by omega)]
  · rw [if_neg (fun h3 => e ((wi_run hc h he h1 h2 j hj).1 h3)), if_neg (by omega)]
/-- what a call tells that returns a list and an error -/
def LstR (xs : List Int) (er : Int) (w : World) (e : Ending) (w' : World) : Prop :=
  ∃ v, e = .returned (.tuple #[v, .int .i64 er]) ∧ IntR w' v xs ∧ Below w.heap.size w w'
theorem intR_nil (w : World) : IntR w (.slice none 0 0) [] := ⟨none, 0, rfl, .inl rfl⟩

set_option maxRecDepth 100000 in
set_option maxHeartbeats 4000000 in
theorem with_any (A : Option Addr) (c : Nat) (l : List Int) (i : Int) (w : World) (hl : l.length ≤ 1000) (hi : I64L l) (hL : IntR w (.slice A l.length c) l) :
    Calls Try.prog 13 #[.slice A l.length c, .int .i64 i] w (LstR (withP l i) (inE l i) w) := by
  have KF := Lib.hid (find_any A c l i w hl hi hL)
  have HL := Lib.hid hl
  clear hL hi hl
  go_enter Try.func13, Try.ntmps13
  go_upto_region 2 with (go_at_call 24; refine KF.out.mono ?_; rintro e w2 ⟨f, t, er, rfl, hb2, hr⟩)
  have HB := Lib.hid hb2
  clear KF
  by_cases he : inE l i = 0
  · have hq : er = 0 ∧ ∃ (a b : Nat) (pre : List (Nat × Nat)), f = (a : Int) ∧ t = (b : Int) ∧ Ch l pre a ∧ IsEnd l a b ∧ (a : Int) ≤ i ∧ i < (b : Int) := by
      unfold inE at he
      split at he
      · exact absurd he (by assumption)
      · rename_i h1
        rw [if_neg h1] at hr
        split at he
        · cases he
        · rename_i h2
          rw [if_neg h2] at hr
          exact hr
    have hc0 : chkP l = 0 := by
      unfold inE at he
      split at he
      · exact he
      · rename_i h1; exact Decidable.byContradiction h1
    obtain ⟨rfl, a, b, pre, rfl, rfl, h1, h2, h3, h4⟩ := hq
    have KI := Lib.hid (indices_any a b w2 (Nat.le_of_lt h2.lt) (by have := h2.le; have := HL.out; omega))
    have HW : Hid (withP l i = rgP a b) := Lib.hid (by unfold withP; rw [if_pos he]; exact wi_rg hc0 h1 h2 (by omega) (by omega))
    have HE := Lib.hid he
    have HLt := Lib.hid (rgP_len a b)
    clear hr hc0 h1 h2 h3 h4 he
    go_wp2_with (go_at_call 22; refine KI.out.mono ?_; rintro e w3 ⟨g, rfl, hg, hrow, hb3⟩)
    refine bodyPost_ret (results_tmp2 rfl _ _ _) rfl ?_
    refine ⟨_, by rw [HE.out]; rfl, ?_, HB.out.trans (hb3.mono HB.out.size)⟩
    have h := hrow.intR (c := b - a)
    rw [HLt.out] at h
    rw [HW.out]
    exact h
  · have he2 : er = inE l i := by
      unfold inE at he ⊢
      split at hr
      · rename_i h1; rw [if_pos h1]; exact hr
      · rename_i h1
        rw [if_neg h1] at he ⊢
        split at hr
        · rename_i h2; rw [if_pos h2]; exact hr
        · rename_i h2; rw [if_neg h2] at he; exact absurd rfl he
    have g0 : (er != 0) = true := by rw [he2]; simpa using he
    have HW : Hid (withP l i = []) := Lib.hid (by unfold withP; rw [if_neg he])
    have HE := Lib.hid he2
    clear hr he he2
    go_wp2
    refine bodyPost_ret (results_tmp2 rfl _ _ _) rfl ?_
    exact ⟨_, by rw [← HE.out]; rfl, by rw [HW.out]; exact intR_nil _, HB.out⟩
end Go.Proofs.Ytggbflogndpnoaa
