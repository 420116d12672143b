/- Lists of numbers: sums, weights, the first of the greatest, equal lists; and the reference's share. -/
import Derived.Test.YtalnocdgmcchaaaDoorMoneyD
namespace Go.Proofs.YtalnocdgmcchaaaDoor
open Go.RowKit
set_option linter.unusedSimpArgs false
set_option linter.unusedVariables false

/-- the slice value v holds the numbers l, in memory that lies in w -/
def IntL (w : World) (v : Value) (l : List Int) : Prop :=
  ∃ A c, v = .slice A l.length c ∧ (l = [] ∨ ∃ b o, A = some ⟨b, o, none⟩ ∧ b < w.heap.size ∧ ∀ i (h : i < l.length), w.cell? ⟨b, o + i, none⟩ = some (.int .i64 l[i]))
theorem IntL.more {w w' : World} {v : Value} {l : List Int} (h : IntL w v l) (hb : Below w.heap.size w w') : IntL w' v l := by
  obtain ⟨A, c, rfl, h⟩ := h
  refine ⟨A, c, rfl, ?_⟩
  rcases h with h | ⟨b, o, rfl, hlt, hc⟩
  · exact .inl h
  · exact .inr ⟨b, o, rfl, Nat.lt_of_lt_of_le hlt hb.size, fun i hi => (hb.cell (p := ⟨b, o + i, none⟩) hlt).trans (hc i hi)⟩
theorem IntL.cells {w : World} {A : Option Addr} {n c : Nat} {l : List Int} (h : IntL w (.slice A n c) l) (hp : 0 < l.length) :
    ∃ b o, A = some ⟨b, o, none⟩ ∧ n = l.length ∧ b < w.heap.size ∧ ∀ i (h : i < l.length), w.cell? ⟨b, o + i, none⟩ = some (.int .i64 l[i]) := by
  obtain ⟨A', c', e, h⟩ := h
  cases e
  rcases h with h | ⟨b, o, h1, h2, h3⟩
  · rw [h] at hp; simp at hp
  · exact ⟨b, o, h1, rfl, h2, h3⟩
theorem IntL.len {w : World} {A : Option Addr} {n c : Nat} {l : List Int} (h : IntL w (.slice A n c) l) : n = l.length := by
  obtain ⟨A', c', e, h⟩ := h
  cases e
  rfl

def sumR (acc : Int) : List Int → Int × Int
  | [] => (acc, 0)
  | x :: r => if (addR acc x).2 = 0 then sumR (addR acc x).1 r else (0, 11)
theorem sumR_step (acc : Int) (l : List Int) (k : Nat) (h : k < l.length) (h2 : (addR acc l[k]).2 = 0) : sumR acc (l.drop k) = sumR (addR acc l[k]).1 (l.drop (k + 1)) := by
  rw [List.drop_eq_getElem_cons h, sumR, if_pos h2]
theorem sumR_stop (acc : Int) (l : List Int) (k : Nat) (h : k < l.length) (h2 : (addR acc l[k]).2 ≠ 0) : sumR acc (l.drop k) = (0, 11) := by
  rw [List.drop_eq_getElem_cons h, sumR, if_neg h2]
theorem sumR_end (acc : Int) (l : List Int) (k : Nat) (h : l.length ≤ k) : sumR acc (l.drop k) = (acc, 0) := by
  rw [List.drop_eq_nil_of_le h, sumR]
theorem addR_two (a b : Int) : (addR a b = (a + b, 0)) ∨ addR a b = (0, 11) := by
  unfold addR; split <;> simp

set_option maxHeartbeats 1000000 in
theorem sum_any (v : Value) (l : List Int) (w : World) (hv : IntL w v l) (hn : l.length ≤ 1000000) :
    Calls Tryd.prog 14 #[v] w fun e w' => e = .returned (.tuple #[.int .i64 (sumR 0 l).1, .int .i64 (sumR 0 l).2]) ∧ w = w' := by
  obtain ⟨A, c, rfl, hc⟩ := hv
  have HC := Lib.hid hc
  clear hc
  go_enter Tryd.func14, Tryd.ntmps14
  go_wp2
  go_loop [4, 11] (fun s i => ∃ (k : Nat) (acc : Int), k ≤ l.length ∧ i = .int .i64 k ∧ s = .int .i64 acc ∧ Hid (sumR 0 l = sumR acc (l.drop k))) (fun _ i => l.length - (intOf i).toNat)
  case atStart => exact ⟨0, 0, Nat.zero_le _, rfl, rfl, Lib.hid (by rw [List.drop_zero])⟩
  case round =>
    obtain ⟨k, acc, hk, rfl, rfl, HS⟩ := hrel
    by_cases hlt : k < l.length
    · obtain ⟨b, o, rfl, hb, hcc⟩ : ∃ b o, A = some ⟨b, o, none⟩ ∧ b < w.heap.size ∧ ∀ i (h : i < l.length), w.cell? ⟨b, o + i, none⟩ = some (.int .i64 l[i]) := by
        rcases HC.out with h | h
        · rw [h] at hlt; simp at hlt
        · exact h
      have g1 := hcc k hlt
      have i1 : (k : Int) < (l.length : Int) := by omega
      clear hcc
      have CA := Lib.hid (fun w => add_any acc l[k] w)
      rcases addR_two acc l[k] with h2 | h2
      · have HS2 : Hid (sumR 0 l = sumR (acc + l[k]) (l.drop (k + 1))) := Lib.hid (by rw [HS.out, sumR_step acc l k hlt (by rw [h2]), h2])
        rw [h2] at CA
        clear h2
        generalize l[k] = x at *
        go_wp2_with (go_at_call 10; refine (CA.out _).mono ?_; rintro e w' ⟨rfl, rfl⟩)
        go_round
        case rel => exact ⟨k + 1, acc + x, by omega, by go_num, rfl, HS2⟩
        case measure => simp [intOf]; omega
      · have HS2 : Hid (sumR 0 l = (0, 11)) := Lib.hid (by rw [HS.out, sumR_stop acc l k hlt (by rw [h2]; decide)])
        rw [h2] at CA
        clear h2
        generalize l[k] = x at *
        go_wp2_with (go_at_call 10; refine (CA.out _).mono ?_; rintro e w' ⟨rfl, rfl⟩)
        go_ret2
        exact ⟨by rw [HS2.out]; rfl, rfl⟩
    · have HS2 : Hid (sumR 0 l = (acc, 0)) := Lib.hid (by rw [HS.out, sumR_end acc l k (by omega)])
      go_wp2
      go_ret2
      exact ⟨by rw [HS2.out]; rfl, rfl⟩
set_option maxHeartbeats 1000000 in
theorem rsum_any (v : Value) (l : List Int) (w : World) (hv : IntL w v l) (hn : l.length ≤ 1000000) :
    Calls Tryd.prog 15 #[v] w fun e w' => e = .returned (.tuple #[.int .i64 (sumR 0 l).1, .int .i64 (sumR 0 l).2]) ∧ w = w' := by
  obtain ⟨A, c, rfl, hc⟩ := hv
  have HC := Lib.hid hc
  clear hc
  go_enter Tryd.func15, Tryd.ntmps15
  go_wp2
  go_loop [4, 5] (fun s i => ∃ (k : Nat) (acc : Int), k ≤ l.length ∧ i = .int .i64 k ∧ s = .int .i64 acc ∧ Hid (sumR 0 l = sumR acc (l.drop k))) (fun _ i => l.length - (intOf i).toNat)
  case atStart => exact ⟨0, 0, Nat.zero_le _, rfl, rfl, Lib.hid (by rw [List.drop_zero])⟩
  case round =>
    obtain ⟨k, acc, hk, rfl, rfl, HS⟩ := hrel
    by_cases hlt : k < l.length
    · obtain ⟨b, o, rfl, hb, hcc⟩ : ∃ b o, A = some ⟨b, o, none⟩ ∧ b < w.heap.size ∧ ∀ i (h : i < l.length), w.cell? ⟨b, o + i, none⟩ = some (.int .i64 l[i]) := by
        rcases HC.out with h | h
        · rw [h] at hlt; simp at hlt
        · exact h
      have g1 := hcc k hlt
      have i1 : (k : Int) < (l.length : Int) := by omega
      clear hcc
      have CA := Lib.hid (fun w => radd_any acc l[k] w)
      rcases addR_two acc l[k] with h2 | h2
      · have HS2 : Hid (sumR 0 l = sumR (acc + l[k]) (l.drop (k + 1))) := Lib.hid (by rw [HS.out, sumR_step acc l k hlt (by rw [h2]), h2])
        rw [h2] at CA
        clear h2
        generalize l[k] = x at *
        go_wp2_with (go_at_call 11; refine (CA.out _).mono ?_; rintro e w' ⟨rfl, rfl⟩)
        go_round
        case rel => exact ⟨k + 1, acc + x, by omega, by go_num, rfl, HS2⟩
        case measure => simp [intOf]; omega
      · have HS2 : Hid (sumR 0 l = (0, 11)) := Lib.hid (by rw [HS.out, sumR_stop acc l k hlt (by rw [h2]; decide)])
        rw [h2] at CA
        clear h2
        generalize l[k] = x at *
        go_wp2_with (go_at_call 11; refine (CA.out _).mono ?_; rintro e w' ⟨rfl, rfl⟩)
        go_ret2
        exact ⟨by rw [HS2.out]; rfl, rfl⟩
    · have HS2 : Hid (sumR 0 l = (acc, 0)) := Lib.hid (by rw [HS.out, sumR_end acc l k (by omega)])
      go_wp2
      go_ret2
      exact ⟨by rw [HS2.out]; rfl, rfl⟩

/-! ### equal lists -/
theorem take_stepI (a b : List Int) (k : Nat) (h1 : k < a.length) (h2 : k < b.length) (h : a.take k = b.take k) (he : a[k] = b[k]) : a.take (k + 1) = b.take (k + 1) := by
  rw [List.take_succ_eq_append_getElem h1, List.take_succ_eq_append_getElem h2, h, he]
theorem not_sameI (a b : List Int) (k : Nat) (h1 : k < a.length) (h2 : k < b.length) (he : a[k] ≠ b[k]) : a ≠ b := by
  rintro rfl; exact he rfl
def sameI (a b : List Int) : Bool := decide (a = b)
set_option maxHeartbeats 1000000 in
theorem lawsame_any (va vb : Value) (sa sb : List Int) (w : World) (hva : IntL w va sa) (hvb : IntL w vb sb) (hn : sa.length ≤ 1000000) (hm : sb.length ≤ 1000000) :
    Calls Tryd.prog 22 #[va, vb] w fun e w' => e = .returned (.bool (sameI sa sb)) ∧ ∃ n, w' = w.drewN n := by
  obtain ⟨A, c, rfl, hca⟩ := hva
  obtain ⟨B, d, rfl, hcb⟩ := hvb
  by_cases hl : sa.length = sb.length
  case neg =>
    have hl' : ((sa.length : Int) != (sb.length : Int)) = true := by simp; omega
    have HS : Hid (sameI sa sb = false) := Lib.hid (by
      simp only [sameI, decide_eq_false_iff_not]
      intro e
      exact hl (congrArg List.length e))
    clear hl
    go_enter Tryd.func22, Tryd.ntmps22
    go_wp2
    go_ret
    exact ⟨ret_bool HS.out.symm, 0, rfl⟩
  have hl' : ((sa.length : Int) != (sb.length : Int)) = false := by simp [hl]
  have HL := Lib.hid hl
  clear hl
  go_enter Tryd.func22, Tryd.ntmps22
  go_wp2
  go_loopw [5] (fun i wr => ∃ k : Nat, k ≤ sa.length ∧ i = .int .i64 k ∧ Hid (sa.take k = sb.take k) ∧ ∃ n, wr = w.drewN n) (fun i _ => sa.length - (intOf i).toNat)
  case atStart => exact ⟨0, Nat.zero_le _, rfl, Lib.hid rfl, 0, rfl⟩
  case round =>
    obtain ⟨k, hk, rfl, HT, n, rfl⟩ := hrel
    by_cases hlt : k < sa.length
    · have hlt2 : k < sb.length := by have := HL.out; omega
      obtain ⟨b1, o1, rfl, hb1, hc1⟩ : ∃ b o, A = some ⟨b, o, none⟩ ∧ b < w.heap.size ∧ ∀ i (h : i < sa.length), w.cell? ⟨b, o + i, none⟩ = some (.int .i64 sa[i]) := by
        rcases hca with h | h
        · rw [h] at hlt; simp at hlt
        · exact h
      obtain ⟨b2, o2, rfl, hb2, hc2⟩ : ∃ b o, B = some ⟨b, o, none⟩ ∧ b < w.heap.size ∧ ∀ i (h : i < sb.length), w.cell? ⟨b, o + i, none⟩ = some (.int .i64 sb[i]) := by
        rcases hcb with h | h
        · rw [h] at hlt2; simp at hlt2
        · exact h
      have g1 := hc1 k hlt
      have g2 := hc2 k hlt2
      have i1 : (k : Int) < (sa.length : Int) := by omega
      have i2 : (k : Int) < (sb.length : Int) := by omega
      clear hc1 hc2 hca hcb
      by_cases he : sa[k] = sb[k]
      · have HT2 := Lib.hid (take_stepI sa sb k hlt hlt2 HT.out he)
        have t1 : (sa[k] != sb[k]) = false := by rw [he]; simp
        clear he
        generalize sa[k] = x at *
        generalize sb[k] = y at *
        go_wp2
        go_quiet (fail)
        go_wp2
        go_roundw
        case rel => exact ⟨k + 1, by omega, by go_num, HT2, _, rfl⟩
        case measure => simp [intOf]; omega
      · have t1 : (sa[k] != sb[k]) = true := by simp [he]
        have HS : Hid (sameI sa sb = false) := Lib.hid (by
          simp only [sameI, decide_eq_false_iff_not]
          exact not_sameI _ _ k hlt hlt2 he)
        clear he
        generalize sa[k] = x at *
        generalize sb[k] = y at *
        go_wp2
        go_quiet (fail)
        go_wp2
        go_ret
        exact ⟨ret_bool HS.out.symm, _, by rw [World.drewN_drewN]⟩
    · have HS : Hid (sameI sa sb = true) := Lib.hid (by
        have := HT.out
        have h2 := HL.out
        rw [List.take_of_length_le (by omega), List.take_of_length_le (by omega)] at this
        simp only [sameI, decide_eq_true_eq]
        exact this)
      go_wp2
      go_ret
      exact ⟨ret_bool HS.out.symm, _, rfl⟩

/-! ### the first of the greatest -/
def First (l : List Int) (k : Nat) : Prop := ∃ h : k < l.length, (∀ j (hj : j < l.length), l[j] ≤ l[k]) ∧ ∀ j (hj : j < k), l[j]'(by omega) < l[k]
def FirstOf (l : List Int) (w : World) (e : Ending) (w' : World) : Prop := ∃ k : Nat, First l k ∧ e = .returned (.int .i64 k) ∧ ∃ n, w' = w.drewN n
theorem first_step {l : List Int} {at_ k : Nat} (hk : k < l.length) (ha : at_ < l.length) (hat : at_ ≤ k) (h1 : ∀ j (hj : j < l.length), j < k → l[j] ≤ l[at_]) (h2 : ∀ j (hj : j < at_), l[j]'(by omega) < l[at_]) (hgt : l[k] > l[at_]) :
    (∀ j (hj : j < l.length), j < k + 1 → l[j] ≤ l[k]) ∧ ∀ j (hj : j < k), l[j]'(by omega) < l[k] := by
  refine ⟨fun j hj hjk => ?_, fun j hj => ?_⟩
  · by_cases e : j = k
    · subst e; omega
    · have := h1 j hj (by omega); omega
  · have := h1 j (by omega) hj; omega
set_option maxHeartbeats 1000000 in
theorem rgreatest_any (v : Value) (l : List Int) (w : World) (hv : IntL w v l) (hn : l.length ≤ 1000000) (hp : 0 < l.length) :
    Calls Tryd.prog 39 #[v] w (FirstOf l w) := by
  obtain ⟨A, c, rfl, hc⟩ := hv
  obtain ⟨b, o, rfl, hb, hcc⟩ : ∃ b o, A = some ⟨b, o, none⟩ ∧ b < w.heap.size ∧ ∀ i (h : i < l.length), w.cell? ⟨b, o + i, none⟩ = some (.int .i64 l[i]) := by
    rcases hc with h | h
    · rw [h] at hp; simp at hp
    · exact h
  clear hc
  have HC := Lib.hid hcc
  clear hcc
  go_enter Tryd.func39, Tryd.ntmps39
  go_wp2
  go_loopw [3, 4] (fun m i wr => ∃ (k at_ : Nat), k ≤ l.length ∧ i = .int .i64 k ∧ m = .int .i64 at_ ∧ at_ ≤ k ∧ at_ < l.length ∧ Hid (∃ ha : at_ < l.length, (∀ j (hj : j < l.length), j < k → l[j] ≤ l[at_]) ∧ ∀ j (hj : j < at_), l[j]'(by omega) < l[at_]) ∧ ∃ n, wr = w.drewN n) (fun _ i _ => l.length - (intOf i).toNat)
  case atStart => exact ⟨0, 0, Nat.zero_le _, rfl, rfl, Nat.le_refl _, hp, Lib.hid ⟨hp, fun j hj h => by omega, fun j hj => by omega⟩, 0, rfl⟩
  case round =>
    obtain ⟨k, at_, hk, rfl, rfl, hat, hal, HM, n, rfl⟩ := hrel
    by_cases hlt : k < l.length
    · have g1 := HC.out k hlt
      have g2 := HC.out at_ hal
      have i1 : (k : Int) < (l.length : Int) := by omega
      have i2 : (at_ : Int) < (l.length : Int) := by omega
      by_cases hgt : l[k] > l[at_]
      · have HM2 : Hid (∃ ha : k < l.length, (∀ j (hj : j < l.length), j < k + 1 → l[j] ≤ l[k]) ∧ ∀ j (hj : j < k), l[j]'(by omega) < l[k]) := Lib.hid (by
          obtain ⟨h0, h1, h2⟩ := HM.out
          exact ⟨hlt, first_step hlt hal hat h1 h2 hgt⟩)
        clear HM
        generalize hx : l[k] = x at g1 hgt
        generalize hy : l[at_] = y at g2 hgt
        clear hx hy
        go_wp2
        go_quiet (fail)
        go_wp2
        go_roundw
        case rel => exact ⟨k + 1, k, by omega, by go_num, rfl, by omega, hlt, HM2, _, rfl⟩
        case measure => simp [intOf]; omega
      · have HM2 : Hid (∃ ha : at_ < l.length, (∀ j (hj : j < l.length), j < k + 1 → l[j] ≤ l[at_]) ∧ ∀ j (hj : j < at_), l[j]'(by omega) < l[at_]) := Lib.hid (by
          obtain ⟨h0, h1, h2⟩ := HM.out
          refine ⟨hal, fun j hj hjk => ?_, h2⟩
          by_cases e : j = k
          · subst e; omega
          · exact h1 j hj (by omega))
        clear HM
        generalize hx : l[k] = x at g1 hgt
        generalize hy : l[at_] = y at g2 hgt
        clear hx hy
        go_wp2
        go_quiet (fail)
        go_wp2
        go_roundw
        case rel => exact ⟨k + 1, at_, by omega, by go_num, rfl, by omega, hal, HM2, _, rfl⟩
        case measure => simp [intOf]; omega
    · have HF : Hid (First l at_) := Lib.hid (by
        obtain ⟨h0, h1, h2⟩ := HM.out
        exact ⟨hal, fun j hj => h1 j hj (by omega), h2⟩)
      clear HM
      go_wp2
      go_ret
      exact ⟨at_, HF.out, rfl, _, rfl⟩
end Go.Proofs.YtalnocdgmcchaaaDoor
