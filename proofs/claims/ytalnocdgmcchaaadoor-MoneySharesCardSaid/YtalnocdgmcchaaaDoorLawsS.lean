/- The laws MoneySums, MoneyRounds, MoneySplits, MoneyTexts, walked. -/
import Derived.Test.YtalnocdgmcchaaaDoorKnows
namespace Go.Proofs.YtalnocdgmcchaaaDoor
open Go.RowKit Go.Sort
set_option linter.unusedSimpArgs false
set_option linter.unusedVariables false

set_option maxRecDepth 100000 in
set_option maxHeartbeats 4000000 in
theorem moneySums_walk (a b : Int) (A : Option Addr) (c : Nat) (l : List Int) (w : World) (b1 : -9223372036854775808 ≤ b) (b2 : b ≤ 9223372036854775807) (hv : IntL w (.slice A l.length c) l) (hbig : l.length ≤ 140737488355328) (hE : Env w) :
    Calls Tryd.prog 3 #[.int .i64 a, .int .i64 b, .slice A l.length c] w fun e w' => e = .returned (.bool true) ∧ Below w.heap.size w w' := by
  have HE := Lib.hid hE
  by_cases hlen : l.length ≤ 2000
  case neg =>
    have hz : (l.length : Int) > 2000 := by omega
    clear hE hlen
    go_enter Tryd.func3, Tryd.ntmps3
    go_wp2_with fail
    refine (knows_any _ HE.out).mono ?_
    rintro e w' ⟨rfl, hb⟩
    have HB := Lib.hid hb
    clear hb
    go_wp2
    go_ret
    exact ⟨rfl, HB.out⟩
  have hz : ¬ (l.length : Int) > 2000 := by omega
  have C1 := Lib.hid (fun w => add_any a b w)
  have C2 := Lib.hid (fun w => radd_any a b w)
  have C3 := Lib.hid (fun w => sub_any a b w b1 b2)
  have C4 := Lib.hid (fun w => rsub_any a b w)
  have C5 := Lib.hid (sum_any _ l w hv (by omega))
  have C6 := Lib.hid (rsum_any _ l w hv (by omega))
  generalize addR a b = p at *
  generalize subR a b = q at *
  generalize sumR 0 l = r at *
  obtain ⟨p1, p2⟩ := p
  obtain ⟨q1, q2⟩ := q
  obtain ⟨r1, r2⟩ := r
  clear hE hlen hv
  go_enter Tryd.func3, Tryd.ntmps3
  go_wp2_with fail
  refine (C1.out _).mono ?_
  rintro e w' ⟨rfl, rfl⟩
  go_wp2_with fail
  refine (C2.out _).mono ?_
  rintro e w' ⟨rfl, rfl⟩
  go_wp2_with fail
  refine (C3.out _).mono ?_
  rintro e w' ⟨rfl, rfl⟩
  go_wp2_with fail
  refine (C4.out _).mono ?_
  rintro e w' ⟨rfl, rfl⟩
  go_wp2_with fail
  refine C5.out.mono ?_
  rintro e w' ⟨rfl, rfl⟩
  go_wp2_with fail
  refine C6.out.mono ?_
  rintro e w' ⟨rfl, rfl⟩
  go_wp2_with fail
  refine (knows_any _ HE.out).mono ?_
  rintro e w' ⟨rfl, hb⟩
  have HB := Lib.hid hb
  clear hb
  go_wp2
  go_ret
  exact ⟨rfl, HB.out⟩

set_option maxRecDepth 100000 in
set_option maxHeartbeats 4000000 in
theorem moneyRounds_walk (a b : Int) (w : World) (b1 : -9223372036854775808 ≤ b) (b2 : b ≤ 9223372036854775807) (hE : Env w) :
    Calls Tryd.prog 4 #[.int .i64 a, .int .i64 b] w fun e w' => e = .returned (.bool true) ∧ Below w.heap.size w w' := by
  have HE := Lib.hid hE
  have C1 := Lib.hid (fun w => percent_any a b w)
  have C2 := Lib.hid (fun w => rpercent_any a b w)
  have C3 := Lib.hid (fun w => up_any a b w b1 b2)
  have C4 := Lib.hid (fun w => rup_any a b w b1 b2)
  generalize percR a b = p at *
  generalize upR a b = q at *
  obtain ⟨p1, p2⟩ := p
  obtain ⟨q1, q2⟩ := q
  clear hE
  go_enter Tryd.func4, Tryd.ntmps4
  go_wp2_with fail
  refine (C1.out _).mono ?_
  rintro e w' ⟨rfl, n1, rfl⟩
  go_wp2_with fail
  refine (C2.out _).mono ?_
  rintro e w' ⟨rfl, n2, rfl⟩
  go_wp2_with fail
  refine (C3.out _).mono ?_
  rintro e w' ⟨rfl, rfl⟩
  go_wp2_with fail
  refine (C4.out _).mono ?_
  rintro e w' ⟨rfl, n3, rfl⟩
  have HB0 : Hid (Below w.heap.size w (w.drewN (n1 + n2 + n3))) := Lib.hid (below_drewN (Below.refl _ _) _)
  go_wp2_with fail
  refine (knows_any _ (HE.out.more HB0.out)).mono ?_
  rintro e w' ⟨rfl, hb⟩
  have HB := Lib.hid (HB0.out.trans (hb.mono HB0.out.size))
  clear hb
  go_wp2
  go_ret
  exact ⟨rfl, HB.out⟩

/-- what Split and the reference's Split have in common -/
def SplitAll (a : Int) (ws : List Int) (L : List Int) (code : Int) (w : World) (e : Ending) (w' : World) : Prop :=
  ∃ v, e = .returned (.tuple #[v, .int .i64 code]) ∧ IntL w' v L ∧ Below w.heap.size w w'
theorem nilL (w : World) : IntL w (.slice none 0 0) [] := ⟨none, 0, rfl, .inl rfl⟩
theorem split_both (a : Int) (ws : List Int) (hn : ws.length ≤ 100) : ∃ L code, L.length ≤ 100 ∧
    (∀ v w, IntL w v ws → Calls Tryd.prog 20 #[.int .i64 a, v] w (SplitAll a ws L code w)) ∧
    (∀ v w, IntL w v ws → Calls Tryd.prog 21 #[.int .i64 a, v] w (SplitAll a ws L code w)) ∧
    (code ≠ 0 → L = []) ∧ (code = 0 → amtB a = true ∧ Good ws ∧ ∃ ord, Ordered (remL a ws) ord ∧ L = tab (shareF a ws ord) ws.length) := by
  obtain ⟨t, code, hW⟩ : ∃ t code, weighR ws = (t, code) := ⟨_, _, rfl⟩
  by_cases hc : code = 0
  case neg =>
    refine ⟨[], code, by simp, fun v w hv => (split_err v a ws w code hv hn ⟨t, hW⟩ hc).mono fun e w' ⟨he, hb⟩ => ⟨_, he, nilL w', hb⟩,
      fun v w hv => (rsplit_err v a ws w code hv hn ⟨t, hW⟩ hc).mono fun e w' ⟨he, hb⟩ => ⟨_, he, nilL w', hb⟩, fun _ => rfl, fun h => absurd h hc⟩
  subst hc
  cases ha : amtB a
  · refine ⟨[], 11, by simp, fun v w hv => (split_over v a ws w t hv hn hW ha).mono fun e w' ⟨he, hb⟩ => ⟨_, he, nilL w', hb⟩,
      fun v w hv => (rsplit_over v a ws w t hv hn hW ha).mono fun e w' ⟨he, hb⟩ => ⟨_, he, nilL w', hb⟩, fun _ => rfl, fun h => by cases h⟩
  · obtain ⟨G, _⟩ := good_of hW
    obtain ⟨ord, ho⟩ := ordered_ex (remL a ws) (by simp [remL, tab_len]; exact G.len)
    refine ⟨tab (shareF a ws ord) ws.length, 0, by rw [tab_len]; exact hn, fun v w hv => (split_ok v a ws w t hv hn hW ha).mono ?_, fun v w hv => (rsplit_ok v a ws w t hv hn hW ha).mono ?_, fun h => absurd rfl h, fun _ => ⟨rfl, G, ord, ho, rfl⟩⟩
    · rintro e w' ⟨u, o2, he, h2, hl, hb⟩
      rw [ordered_one h2 ho] at hl
      exact ⟨u, he, hl, hb⟩
    · rintro e w' ⟨u, o2, he, h2, hl, hb⟩
      rw [ordered_one h2 ho] at hl
      exact ⟨u, he, hl, hb⟩

set_option maxRecDepth 100000 in
set_option maxHeartbeats 4000000 in
theorem moneySplits_walk (a : Int) (A : Option Addr) (c : Nat) (l : List Int) (w : World) (hv : IntL w (.slice A l.length c) l) (hbig : l.length ≤ 140737488355328) (hE : Env w) :
    Calls Tryd.prog 5 #[.int .i64 a, .slice A l.length c] w fun e w' => e = .returned (.bool true) ∧ Below w.heap.size w w' := by
  have HE := Lib.hid hE
  by_cases hlen : l.length ≤ 100
  case neg =>
    have hz : (l.length : Int) > 100 := by omega
    clear hE hlen
    go_enter Tryd.func5, Tryd.ntmps5
    go_wp2_with fail
    refine (knows_any _ HE.out).mono ?_
    rintro e w' ⟨rfl, hb⟩
    have HB := Lib.hid hb
    clear hb
    go_wp2
    go_ret
    exact ⟨rfl, HB.out⟩
  have hz : ¬ (l.length : Int) > 100 := by omega
  obtain ⟨L, code, hL, C1, C2, _, _⟩ := split_both a l hlen
  have HL := Lib.hid hL
  have D1 := Lib.hid (C1 _ w hv)
  have D2 := Lib.hid (fun w' (hb : Below w.heap.size w w') => C2 _ w' (hv.more hb))
  clear hE hlen hv C1 C2 hL
  go_enter Tryd.func5, Tryd.ntmps5
  go_wp2_with fail
  refine D1.out.mono ?_
  rintro e w1 ⟨v1, rfl, hl1, hb1⟩
  have HB1 := Lib.hid hb1
  have HL1 := Lib.hid hl1
  clear hl1 hb1
  go_wp2_with fail
  refine (D2.out _ HB1.out).mono ?_
  rintro e w2 ⟨v2, rfl, hl2, hb2⟩
  have HL1b := Lib.hid (HL1.out.more hb2)
  have HL2 := Lib.hid hl2
  have HB2 := Lib.hid (HB1.out.trans (hb2.mono HB1.out.size))
  have CSm := lawsame_any v1 v2 L L w2 HL1b.out HL2.out (by have := HL.out; omega) (by have := HL.out; omega)
  rw [show sameI L L = true by simp [sameI]] at CSm
  have CSm2 := Lib.hid CSm
  clear hl2 hb2 CSm HL1
  go_wp2_with fail
  refine CSm2.out.mono ?_
  rintro e w3 ⟨rfl, n, rfl⟩
  have HB3 := Lib.hid (below_drewN HB2.out n)
  clear CSm2
  generalize w2.drewN n = w3 at HB3 ⊢
  go_wp2_with fail
  refine (knows_any _ (HE.out.more HB3.out)).mono ?_
  rintro e w' ⟨rfl, hb⟩
  have HB := Lib.hid (HB3.out.trans (hb.mono HB3.out.size))
  clear hb
  go_wp2
  go_ret
  exact ⟨rfl, HB.out⟩

set_option maxRecDepth 100000 in
set_option maxHeartbeats 4000000 in
theorem moneyTexts_walk (a : Int) (s : ByteArray) (w : World) (h1 : -9223372036854775808 ≤ a) (h2 : a ≤ 9223372036854775807) (hsz : s.size ≤ maxLen) (hE : Env w) :
    Calls Tryd.prog 6 #[.int .i64 a, .string s] w fun e w' => e = .returned (.bool true) ∧ Below w.heap.size w w' := by
  have HE := Lib.hid hE
  unfold maxLen at hsz
  by_cases hlen : s.size ≤ 4000
  case neg =>
    have hz : (s.size : Int) > 4000 := by omega
    clear hE hlen
    go_enter Tryd.func6, Tryd.ntmps6
    go_wp2_with fail
    refine (knows_any _ HE.out).mono ?_
    rintro e w' ⟨rfl, hb⟩
    have HB := Lib.hid hb
    clear hb
    go_wp2
    go_ret
    exact ⟨rfl, HB.out⟩
  have hz : ¬ (s.size : Int) > 4000 := by omega
  have C1 := Lib.hid (fun w hE => parse_any s w (by omega) hE)
  have C2 := Lib.hid (fun w => rparse_any s w (by omega))
  have C3 := Lib.hid (fun w hE => print_any a w h1 h2 hE)
  have C4 := Lib.hid (fun w => rprint_any a w h1 h2)
  have hpl := printL_len a h1 h2
  have hps : (⟨(printL a).toArray⟩ : ByteArray).size ≤ 40000 := by
    have e : (⟨(printL a).toArray⟩ : ByteArray).size = (printL a).length := by simp [ByteArray.size]
    rw [e]
    unfold printL
    simp only [List.length_append, List.length_cons, List.length_nil]
    have : (if a < 0 then [45] else [] : List UInt8).length ≤ 1 := by split <;> simp
    omega
  have C5 := Lib.hid (fun w hE => parse_any ⟨(printL a).toArray⟩ w hps hE)
  have hpp := parse_print a
  rw [show (⟨(printL a).toArray⟩ : ByteArray).data.toList = printL a from rfl, hpp] at C5
  have C6 := Lib.hid (fun w => ramount_any a w)
  generalize parseR s.data.toList = p at *
  obtain ⟨p1, p2⟩ := p
  obtain ⟨X, hX⟩ : ∃ X : ByteArray, X = ⟨(printL a).toArray⟩ := ⟨_, rfl⟩
  rw [← hX] at C3 C4 C5
  clear hE hlen hpl hps hpp hX
  cases hm : amtB a
  · rw [hm] at C5 C6
    clear hm
    go_enter Tryd.func6, Tryd.ntmps6
    go_wp2_with fail
    refine (C1.out _ HE.out).mono ?_
    rintro e w1 ⟨rfl, b1⟩
    have B1 := Lib.hid b1
    clear b1
    go_wp2_with fail
    refine (C2.out _).mono ?_
    rintro e w' ⟨rfl, n, rfl⟩
    have B2 := Lib.hid (below_drewN B1.out n)
    generalize w1.drewN n = w2 at B2 ⊢
    go_wp2_with fail
    refine (C3.out _ (HE.out.more B2.out)).mono ?_
    rintro e w3 ⟨rfl, b3⟩
    have B3 := Lib.hid (B2.out.trans (b3.mono B2.out.size))
    clear b3
    go_wp2_with fail
    refine (C5.out _ (HE.out.more B3.out)).mono ?_
    rintro e w4 ⟨rfl, b4⟩
    have B4 := Lib.hid (B3.out.trans (b4.mono B3.out.size))
    clear b4
    go_wp2_with fail
    refine (C6.out _).mono ?_
    rintro e w' ⟨rfl, rfl⟩
    go_wp2_with fail
    refine (C3.out _ (HE.out.more B4.out)).mono ?_
    rintro e w5 ⟨rfl, b5⟩
    have B5 := Lib.hid (B4.out.trans (b5.mono B4.out.size))
    clear b5
    go_wp2_with fail
    refine (C4.out _).mono ?_
    rintro e w6 ⟨rfl, b6⟩
    have B6 := Lib.hid (B5.out.trans (b6.mono B5.out.size))
    clear b6
    go_wp2_with fail
    refine (knows_any _ (HE.out.more B6.out)).mono ?_
    rintro e w7 ⟨rfl, hb⟩
    have HB := Lib.hid (B6.out.trans (hb.mono B6.out.size))
    clear hb
    go_wp2
    go_ret
    exact ⟨rfl, HB.out⟩
  · rw [hm] at C5 C6
    clear hm
    go_enter Tryd.func6, Tryd.ntmps6
    go_wp2_with fail
    refine (C1.out _ HE.out).mono ?_
    rintro e w1 ⟨rfl, b1⟩
    have B1 := Lib.hid b1
    clear b1
    go_wp2_with fail
    refine (C2.out _).mono ?_
    rintro e w' ⟨rfl, n, rfl⟩
    have B2 := Lib.hid (below_drewN B1.out n)
    generalize w1.drewN n = w2 at B2 ⊢
    go_wp2_with fail
    refine (C3.out _ (HE.out.more B2.out)).mono ?_
    rintro e w3 ⟨rfl, b3⟩
    have B3 := Lib.hid (B2.out.trans (b3.mono B2.out.size))
    clear b3
    go_wp2_with fail
    refine (C5.out _ (HE.out.more B3.out)).mono ?_
    rintro e w4 ⟨rfl, b4⟩
    have B4 := Lib.hid (B3.out.trans (b4.mono B3.out.size))
    clear b4
    go_wp2_with fail
    refine (C6.out _).mono ?_
    rintro e w' ⟨rfl, rfl⟩
    go_wp2_with fail
    refine (C3.out _ (HE.out.more B4.out)).mono ?_
    rintro e w5 ⟨rfl, b5⟩
    have B5 := Lib.hid (B4.out.trans (b5.mono B4.out.size))
    clear b5
    go_wp2_with fail
    refine (C4.out _).mono ?_
    rintro e w6 ⟨rfl, b6⟩
    have B6 := Lib.hid (B5.out.trans (b6.mono B5.out.size))
    clear b6
    go_wp2_with fail
    refine (knows_any _ (HE.out.more B6.out)).mono ?_
    rintro e w7 ⟨rfl, hb⟩
    have HB := Lib.hid (B6.out.trans (hb.mono B6.out.size))
    clear hb
    go_wp2
    go_ret
    exact ⟨rfl, HB.out⟩
end Go.Proofs.YtalnocdgmcchaaaDoor
