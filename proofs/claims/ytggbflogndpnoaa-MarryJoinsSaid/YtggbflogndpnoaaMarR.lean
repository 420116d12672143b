/- The specification's neighbour and Check; lists that are compared. -/
import Derived.Test.YtggbflogndpnoaaMarI
namespace Go.Proofs.Ytggbflogndpnoaa
open Go.RowKit Go.Shelf Go.Maps
set_option linter.unusedSimpArgs false
set_option linter.unusedVariables false

set_option maxRecDepth 100000 in
set_option maxHeartbeats 4000000 in
theorem rneighbour_any (A : Option Addr) (c : Nat) (l : List Int) (i : Nat) (w : World) (hl : l.length ≤ 1000) (hi : i < l.length) (hL : IntR w (.slice A l.length c) l) :
    Calls Try.prog 23 #[.slice A l.length c, .int .i64 (i : Int)] w fun e w' => e = .returned (.bool (nbB l i)) ∧ Below w.heap.size w w' := by
  obtain ⟨n, hn⟩ : ∃ n, n = l.length := ⟨_, rfl⟩
  obtain ⟨b, o, rfl, c0⟩ := int_at hL (k := i) (atP_get hi)
  have HC : Hid (∀ k, k < l.length → w.cell? ⟨b, o + k, none⟩ = some (.int .i64 (atP l k))) := Lib.hid (fun k hk => by
    obtain ⟨b', o', e, hc⟩ := int_at hL (k := k) (atP_get hk)
    cases e
    exact hc)
  obtain ⟨x, hx⟩ : ∃ x, x = atP l i := ⟨_, rfl⟩
  have HX := Lib.hid hx
  have HN := Lib.hid hn
  rw [← hx] at c0
  rw [← hn] at hl hi ⊢
  have HE : Hid (∀ v : Bool, nbB l i = v → Ending.returned (.bool v) = Ending.returned (.bool (nbB l i))) := Lib.hid (fun v h => by rw [h])
  have i0 : (i : Int) < (n : Int) := by omega
  have i1 : (0 : Int) ≤ (i : Int) := by omega
  clear hL hx hn
  have w3 : IntKind.i64.wrap ((i : Int) + 1) = (i : Int) + 1 := IntWalk.i64_in _ (by omega)
  rcases Nat.eq_zero_or_pos i with h0 | h0
  · have HZ : Hid (decide (0 < i) = false) := Lib.hid (by rw [h0]; rfl)
    have d0 : decide (0 < (i : Int)) = false := decide_eq_false (by omega)
    have d1 : decide (0 < i) = false := HZ.out
    clear h0
    by_cases h2 : i + 1 < n
    · obtain ⟨z, hz⟩ : ∃ z, z = atP l (i + 1) := ⟨_, rfl⟩
      have c2 := HC.out (i + 1) (by have := HN.out; omega)
      rw [← hz] at c2
      have i2 : (i : Int) + 1 < (n : Int) := by omega
      have i3 : (0 : Int) ≤ (i : Int) + 1 := by omega
      by_cases h3 : z = x
      · have HV := Lib.hid (HE.out true (by unfold nbB; rw [← HX.out, ← hz, h3, ← HN.out]; simp [h2]))
        have e3 : (z == x) = true := by rw [beq_iff_eq]; exact h3
        clear hz h2 h3
        go_enter Try.func23, Try.ntmps23
        go_wp2
        go_quiet (fail)
        go_wp2
        go_ret
        exact ⟨HV.out, below_drewN (Below.refl _ _) _⟩
      · have HV := Lib.hid (HE.out false (by unfold nbB; rw [← HX.out, ← hz, ← HN.out, decide_eq_false h3]; rw [HZ.out]; simp))
        have e3 : (z == x) = false := beq_eq_false_iff_ne.2 h3
        clear hz h2 h3
        go_enter Try.func23, Try.ntmps23
        go_wp2
        go_quiet (fail)
        go_wp2
        go_ret
        exact ⟨HV.out, below_drewN (Below.refl _ _) _⟩
    · have HV := Lib.hid (HE.out false (by unfold nbB; rw [← HX.out, ← HN.out, decide_eq_false h2]; rw [HZ.out]; simp))
      have i2 : decide ((i : Int) + 1 < (n : Int)) = false := decide_eq_false (by omega)
      have i3 : decide (i + 1 < n) = false := decide_eq_false h2
      clear h2
      go_enter Try.func23, Try.ntmps23
      go_wp2
      go_quiet (fail)
      go_wp2
      go_ret
      exact ⟨HV.out, below_drewN (Below.refl _ _) _⟩
  · obtain ⟨k, hik⟩ : ∃ k, i = k + 1 := ⟨i - 1, by omega⟩
    obtain ⟨y, hy⟩ : ∃ y, y = atP l k := ⟨_, rfl⟩
    have c1 := HC.out k (by have := HN.out; omega)
    rw [← hy] at c1
    have w1 : IntKind.i64.wrap ((i : Int) - 1) = (k : Int) := by rw [IntWalk.i64_in _ (by omega)]; omega
    have w2 : (i : Int) - 1 = (k : Int) := by omega
    have w4 : IntKind.i64.wrap (k : Int) = (k : Int) := IntWalk.i64_in _ (by omega)
    have HK : Hid (atP l (i - 1) = y ∧ 0 < i) := Lib.hid ⟨by rw [hy, hik]; rfl, by omega⟩
    have d0 : decide (0 < (i : Int)) = true := decide_eq_true (by omega)
    have d1 : decide (0 < i) = true := decide_eq_true h0
    have k1 : (k : Int) < (n : Int) := by omega
    have k0 : (0 : Int) ≤ (k : Int) := by omega
    clear hy hik h0
    by_cases h1 : y = x
    · have HV := Lib.hid (HE.out true (by unfold nbB; rw [HK.out.1, ← HX.out, h1]; simp [HK.out.2]))
      have e1 : (y == x) = true := by rw [beq_iff_eq]; exact h1
      clear h1
      go_enter Try.func23, Try.ntmps23
      go_wp2
      go_quiet (fail)
      go_wp2
      go_ret
      exact ⟨HV.out, below_drewN (Below.refl _ _) _⟩
    · have e1 : (y == x) = false := beq_eq_false_iff_ne.2 h1
      have HH := Lib.hid h1
      clear h1
      by_cases h2 : i + 1 < n
      · obtain ⟨z, hz⟩ : ∃ z, z = atP l (i + 1) := ⟨_, rfl⟩
        have c2 := HC.out (i + 1) (by have := HN.out; omega)
        rw [← hz] at c2
        have i2 : (i : Int) + 1 < (n : Int) := by omega
        have i3 : (0 : Int) ≤ (i : Int) + 1 := by omega
        by_cases h3 : z = x
        · have HV := Lib.hid (HE.out true (by unfold nbB; rw [← HX.out, ← hz, h3, ← HN.out]; simp [h2]))
          have e3 : (z == x) = true := by rw [beq_iff_eq]; exact h3
          clear hz h2 h3
          go_enter Try.func23, Try.ntmps23
          go_wp2
          go_quiet (fail)
          go_wp2
          go_ret
          exact ⟨HV.out, below_drewN (Below.refl _ _) _⟩
        · have HV := Lib.hid (HE.out false (by unfold nbB; rw [← HX.out, ← hz, ← HN.out, decide_eq_false h3]; rw [HK.out.1, decide_eq_false HH.out]; simp))
          have e3 : (z == x) = false := beq_eq_false_iff_ne.2 h3
          clear hz h2 h3
          go_enter Try.func23, Try.ntmps23
          go_wp2
          go_quiet (fail)
          go_wp2
          go_ret
          exact ⟨HV.out, below_drewN (Below.refl _ _) _⟩
      · have HV := Lib.hid (HE.out false (by unfold nbB; rw [← HX.out, ← HN.out, decide_eq_false h2]; rw [HK.out.1, decide_eq_false HH.out]; simp))
        have i2 : decide ((i : Int) + 1 < (n : Int)) = false := decide_eq_false (by omega)
        have i3 : decide (i + 1 < n) = false := decide_eq_false h2
        clear h2
        go_enter Try.func23, Try.ntmps23
        go_wp2
        go_quiet (fail)
        go_wp2
        go_ret
        exact ⟨HV.out, below_drewN (Below.refl _ _) _⟩
end Go.Proofs.Ytggbflogndpnoaa
