/- Plain contracts of the loops over an iterator; equal lists; the reference's Days, Count. -/
import Derived.Test.YtnfdmdhpbaifiaaPerF
namespace Go.Proofs.Ytnfdmdhpbaifiaa
open Go.RowKit
set_option linter.unusedSimpArgs false
set_option linter.unusedVariables false

theorem count_any (p : Per) (w : World) : Calls Try.prog 15 #[encQ p] w fun e W' => e = .returned (.int .i64 (daysQ p).length) ∧ Below w.heap.size w W' := callsIn_wide.1 (count_in p w)
theorem days_any (p : Per) (w : World) : Calls Try.prog 13 #[encQ p] w fun e W' => ∃ v, e = .returned v ∧ IntL W' v (daysQ p) ∧ Below w.heap.size w W' :=
  (callsIn_wide.1 (days_in p w)).mono (by rintro e w' ⟨v, rfl, h, hb⟩; exact ⟨v, rfl, .of_own h, hb⟩)
theorem normal_any (p : Per) (w : World) : Calls Try.prog 18 #[encQ p] w fun e W' => e = .returned (.tuple #[encQ (ofQ (daysQ p)).1, .bool (ofQ (daysQ p)).2]) ∧ Below w.heap.size w W' := callsIn_wide.1 (normal_in p w)

/-! ### equal lists -/
theorem take_stepI (a b : List Int) (k : Nat) (h1 : k < a.length) (h2 : k < b.length) (h : a.take k = b.take k) (he : a[k] = b[k]) : a.take (k + 1) = b.take (k + 1) := by
  rw [List.take_succ_eq_append_getElem h1, List.take_succ_eq_append_getElem h2, h, he]
theorem not_sameI (a b : List Int) (k : Nat) (h1 : k < a.length) (h2 : k < b.length) (he : a[k] ≠ b[k]) : a ≠ b := by
  rintro rfl; exact he rfl
def sameI (a b : List Int) : Bool := decide (a = b)
set_option maxHeartbeats 1000000 in
theorem lawsame_any (va vb : Value) (sa sb : List Int) (w : World) (hva : IntL w va sa) (hvb : IntL w vb sb) (hn : sa.length ≤ 1000000) (hm : sb.length ≤ 1000000) :
    Calls Try.prog 12 #[va, vb] w fun e w' => e = .returned (.bool (sameI sa sb)) ∧ ∃ n, w' = w.drewN n := by
  obtain ⟨A, c, rfl, hca⟩ := hva
  obtain ⟨B, d, rfl, hcb⟩ := hvb
  by_cases hl : sa.length = sb.length
  case neg =>
    have hl' : ((sa.length : Int) != (sb.length : Int)) = true := by simp; omega
    have HS : Hid (sameI sa sb = false) := Lib.hid (by
      simp only [sameI, decide_eq_false_iff_not]
      intro e
      exact hl (congrArg List.length e))
    clear hl
    go_enter Try.func12, Try.ntmps12
    go_wp2
    go_ret
    exact ⟨ret_bool HS.out.symm, 0, rfl⟩
  have hl' : ((sa.length : Int) != (sb.length : Int)) = false := by simp [hl]
  have HL := Lib.hid hl
  clear hl
  go_enter Try.func12, Try.ntmps12
  go_wp2
  go_loopw [5] (fun i wr => ∃ k : Nat, k ≤ sa.length ∧ i = .int .i64 k ∧ Hid (sa.take k = sb.take k) ∧ ∃ n, wr = w.drewN n) (fun i _ => sa.length - (intOf i).toNat)
  case atStart => exact ⟨0, Nat.zero_le _, rfl, Lib.hid rfl, 0, rfl⟩
  case round =>
    obtain ⟨k, hk, rfl, HT, n, rfl⟩ := hrel
    by_cases hlt : k < sa.length
    · have hlt2 : k < sb.length := by have := HL.out; omega
      obtain ⟨b1, o1, rfl, hb1, hc1⟩ : ∃ b o, A = some ⟨b, o, none⟩ ∧ b < w.heap.size ∧ ∀ i (h : i < sa.length), w.cell? ⟨b, o + i, none⟩ = some (.int .i64 sa[i]) := by
        rcases hca with h | h
        · rw [h] at hlt; simp at hlt
        · exact h
      obtain ⟨b2, o2, rfl, hb2, hc2⟩ : ∃ b o, B = some ⟨b, o, none⟩ ∧ b < w.heap.size ∧ ∀ i (h : i < sb.length), w.cell? ⟨b, o + i, none⟩ = some (.int .i64 sb[i]) := by
        rcases hcb with h | h
        · rw [h] at hlt2; simp at hlt2
        · exact h
      have g1 := hc1 k hlt
      have g2 := hc2 k hlt2
      have i1 : (k : Int) < (sa.length : Int) := by omega
      have i2 : (k : Int) < (sb.length : Int) := by omega
      clear hc1 hc2 hca hcb
      by_cases he : sa[k] = sb[k]
      · have HT2 := Lib.hid (take_stepI sa sb k hlt hlt2 HT.out he)
        have t1 : (sa[k] != sb[k]) = false := by rw [he]; simp
        clear he
        generalize sa[k] = x at *
        generalize sb[k] = y at *
        go_wp2
        go_quiet (fail)
        go_wp2
        go_roundw
        case rel => exact ⟨k + 1, by omega, by go_num, HT2, _, rfl⟩
        case measure => simp [intOf]; omega
      · have t1 : (sa[k] != sb[k]) = true := by simp [he]
        have HS : Hid (sameI sa sb = false) := Lib.hid (by
          simp only [sameI, decide_eq_false_iff_not]
          exact not_sameI _ _ k hlt hlt2 he)
        clear he
        generalize sa[k] = x at *
        generalize sb[k] = y at *
        go_wp2
        go_quiet (fail)
        go_wp2
        go_ret
        exact ⟨ret_bool HS.out.symm, _, by rw [World.drewN_drewN]⟩
    · have HS : Hid (sameI sa sb = true) := Lib.hid (by
        have := HT.out
        have h2 := HL.out
        rw [List.take_of_length_le (by omega), List.take_of_length_le (by omega)] at this
        simp only [sameI, decide_eq_true_eq]
        exact this)
      go_wp2
      go_ret
      exact ⟨ret_bool HS.out.symm, _, rfl⟩


/-! ### the reference's Days -/
theorem Box3.more1 {w : World} {p : Per} {W W' : World} (h : Box3 w w.heap.size p W) (hb : Below (w.heap.size + 1) W W') : Box3 w w.heap.size p W' :=
  ⟨(hb.cell (p := ⟨w.heap.size, 0, none⟩) (by simp)).trans h.1, (hb.cell (p := ⟨w.heap.size, 1, none⟩) (by simp)).trans h.2.1, (hb.cell (p := ⟨w.heap.size, 2, none⟩) (by simp)).trans h.2.2.1, h.2.2.2.trans (hb.mono (by omega))⟩
set_option maxHeartbeats 2000000 in
theorem rdays_any (f t d : Int) (w : World) (hf : -9223372036854775808 ≤ f) (hf2 : f ≤ 9223372036854775807) : Calls Try.prog 14 #[encQ (f, t, d)] w fun e w' => ∃ v, e = .returned v ∧ IntL w' v (daysQ (f, t, d)) ∧ Below w.heap.size w w' := by
  have hB : Box3 w w.heap.size (f, t, d) (w.alloc (.cells #[.int .i64 f, .int .i64 t, .int .i64 d] 23)) := Box3.new w (f, t, d) _
  have hsz : (w.alloc (.cells #[.int .i64 f, .int .i64 t, .int .i64 d] 23)).heap.size = w.heap.size + 1 := by simp
  cases h : okQ (f, t, d)
  · have he := errQ_two h
    have HD := Lib.hid (daysQ_no h)
    have CV := Lib.hid (fun W => rcheck_any f t d W)
    generalize errQ (f, t, d) = z at *
    clear h
    go_enter Try.func14, Try.ntmps14
    go_wp2
    go_loopw [3, 4] (fun vo vd wr => vo = .slice none 0 0 ∧ vd = .int .i64 f ∧ Box3 w w.heap.size (f, t, d) wr) (fun _ _ _ => 0)
    case atStart => exact ⟨rfl, rfl, hB⟩
    case round =>
      obtain ⟨rfl, rfl, hb⟩ := hrel
      obtain ⟨c0, c1, c2, c3⟩ := hb
      go_wp2_with (go_at_call 9; refine (CV.out _).mono ?_; rintro e w' ⟨rfl, hb⟩)
      go_ret
      exact ⟨_, rfl, by rw [HD.out]; exact ⟨none, 0, rfl, .inl rfl⟩, c3.trans (hb.mono c3.size)⟩
  · have he := errQ_ok h
    have HD := Lib.hid (daysQ_yes h)
    have hq := okQ_yes h
    have q0 : 0 ≤ f := hq.1
    have q1 : f ≤ t := hq.2.1
    have q2 : t < 36525 := hq.2.2.1
    have q3 : t - f < 800 := hq.2.2.2.1
    have hlen : lenQ (f, t, d) = (t - f + 1).toNat := rfl
    have CV := Lib.hid (fun W => rcheck_any f t d W)
    rw [he] at CV
    have HH := Lib.hid (daysQ_has (f, t, d))
    clear he hq
    go_enter Try.func14, Try.ntmps14
    go_wp2
    go_loopw [3, 4] (fun vo vd wr => ∃ k : Nat, k ≤ lenQ (f, t, d) ∧ vd = .int .i64 (f + k) ∧ IOwn 3 (w.heap.size + 1) wr vo (daysTo (f, t, d) k) ∧ Box3 w w.heap.size (f, t, d) wr) (fun _ vd _ => (t + 1 - intOf vd).toNat)
    case atStart => exact ⟨0, Nat.zero_le _, by simp, IOwn.nil (by simp), hB⟩
    case round =>
      obtain ⟨k, hk, rfl, hO, hb⟩ := hrel
      have hb0 := hb
      obtain ⟨c0, c1, c2, c3⟩ := hb
      by_cases hlt : k < lenQ (f, t, d)
      · have x3 : f + (k : Int) ≤ t := by omega
        have CH := Lib.hid (fun W => rhas_any f t d (f + k) W (by omega) (by omega))
        rw [show hasQ (f, t, d) (f + k) = wdB d (f + k) from HH.out k h hlt] at CH
        have hll := daysTo_len (f, t, d) k
        cases hw : wdB d (f + k)
        · have HN := Lib.hid (daysTo_miss (f, t, d) k hw)
          rw [hw] at CH
          clear hw
          go_wp2_with (first | (go_at_call 9; refine (CV.out _).mono ?_; rintro e w2 ⟨rfl, hb1⟩; have hb2 := hb0.more hb1; have d0 := hb2.1; have d1 := hb2.2.1; have d2 := hb2.2.2.1; have hO2 := hO.more hb1) | (go_at_call 11; refine (CH.out _).mono ?_; rintro e w3 ⟨rfl, hb3⟩))
          go_roundw
          case rel => exact ⟨k + 1, by omega, by congr 1; omega, by rw [HN.out]; exact hO2.more hb3, hb2.more hb3⟩
          case measure => simp [intOf]; omega
        · have HN := Lib.hid (daysTo_hit (f, t, d) k hw)
          rw [hw] at CH
          clear hw
          go_wp2_with (first | (go_at_call 9; refine (CV.out _).mono ?_; rintro e w2 ⟨rfl, hb1⟩; have hb2 := hb0.more hb1; have d0 := hb2.1; have d1 := hb2.2.1; have d2 := hb2.2.2.1; have hO2 := hO.more hb1) | (go_at_call 11; refine (CH.out _).mono ?_; rintro e w3 ⟨rfl, hb3⟩; have hO3 := hO2.more hb3) | (refine wpList_iapp rfl _ _ rfl _ (daysTo (f, t, d) k) rfl (hO3.alloc _) _ (f + k) 1 rfl (heap_alloc_new _ _) (by omega) ?_; intro v' w4 hO4 hb4))
          go_roundw
          case rel => exact ⟨k + 1, by omega, by congr 1; omega, by rw [HN.out]; exact hO4, ((hb2.more hb3).more (bel_alloc _ _)).more1 hb4⟩
          case measure => simp [intOf]; omega
      · have e : k = lenQ (f, t, d) := by omega
        subst e
        go_wp2_with (go_at_call 9; refine (CV.out _).mono ?_; rintro e w2 ⟨rfl, hb1⟩; have hb2 := hb0.more hb1; have d1 := hb2.2.1)
        go_ret
        exact ⟨_, rfl, by rw [HD.out]; exact .of_own (hO.more hb1).own, hb2.2.2.2⟩

theorem rcount_any (f t d : Int) (w : World) (hf : -9223372036854775808 ≤ f) (hf2 : f ≤ 9223372036854775807) : Calls Try.prog 16 #[encQ (f, t, d)] w fun e W' => e = .returned (.int .i64 (daysQ (f, t, d)).length) ∧ Below w.heap.size w W' := by
  have CD := Lib.hid (fun W => rdays_any f t d W hf hf2)
  have hl := daysQ_len (f, t, d)
  generalize daysQ (f, t, d) = l at *
  go_enter Try.func16, Try.ntmps16
  go_wp2_with (go_at_call 14; refine (CD.out _).mono ?_; rintro e w' ⟨v, rfl, ⟨A, c, rfl, hL⟩, hb⟩)
  go_ret
  exact ⟨rfl, (bel_alloc _ _).trans (hb.mono (by simp))⟩

end Go.Proofs.Ytnfdmdhpbaifiaa
