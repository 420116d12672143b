/- Walks of the reference's Join, Same, Long. -/
import Derived.Test.YtcdpcbdmnmipcaaDoorTextI
namespace Go.Proofs.YtcdpcbdmnmipcaaDoor
open Go.RowKit
set_option linter.unusedSimpArgs false
set_option linter.unusedVariables false

set_option maxRecDepth 100000 in
set_option maxHeartbeats 4000000 in
theorem rjoin_any (v : Value) (ss : List ByteArray) (w : World) (hv : StrL w v ss) (hn : ss.length ≤ 2000) (hsum : ((bytesOf ss).map List.length).sum ≤ 2000) :
    Calls Tryd.prog 35 #[v] w fun e w' => e = .returned (.string ⟨(joinL (bytesOf ss)).toArray⟩) ∧ Below w.heap.size w w' := by
  obtain ⟨A, c, rfl, hcell⟩ := hv
  go_enter Tryd.func35, Tryd.ntmps35
  go_wp2
  have hb0 : Buf 5 w.heap.size w w (.slice none 0 0) [] := Buf.nil (Below.refl _ _) (Nat.le_refl _)
  go_loopw [3, 4] (fun v i wr => ∃ k : Nat, k ≤ ss.length ∧ i = .int .i64 k ∧ Buf 5 w.heap.size w wr v (joinL ((bytesOf ss).take k))) (fun _ i _ => ss.length - (intOf i).toNat)
  case atStart => exact ⟨0, Nat.zero_le _, rfl, by simpa [joinL] using hb0⟩
  case round =>
    obtain ⟨k, hk, rfl, hB⟩ := hrel
    have hlen : (joinL ((bytesOf ss).take k)).length ≤ 20000 := by
      have h1 := joinL_le ((bytesOf ss).take k)
      have h2 := sum_take_le (bytesOf ss) k
      have h3 : ((bytesOf ss).take k).length ≤ 2000 := by simp [bytesOf]; omega
      omega
    by_cases hlt : k < ss.length
    · obtain ⟨b, o, rfl, hb, hc⟩ : ∃ b o, A = some ⟨b, o, none⟩ ∧ b < w.heap.size ∧ ∀ i (h : i < ss.length), w.cell? ⟨b, o + i, none⟩ = some (.string ss[i]) := by
        rcases hcell with h | h
        · rw [h] at hlt; simp at hlt
        · exact h
      have HC := Lib.hid (hc k hlt)
      have hck : wr.cell? ⟨b, o + k, none⟩ = some (.string ss[k]) := (hB.bel.cell (p := ⟨b, o + k, none⟩) hb).trans HC.out
      clear hc
      have hsk : (ss[k]).data.toList.length ≤ 2000 := Nat.le_trans (len_le_sum (bytesOf ss) _ (by simp [bytesOf]; exact ⟨ss[k], List.getElem_mem hlt, rfl⟩)) hsum
      have hsk2 : (ss[k]).size ≤ 2000 := by have : (ss[k]).data.toList.length = (ss[k]).size := by simp
                                            omega
      have hsq : (ss[k]).size ≤ 40000 := by omega
      have htk : (bytesOf ss).take (k + 1) = (bytesOf ss).take k ++ [(ss[k]).data.toList] := by
        rw [List.take_succ_eq_append_getElem (by simpa [bytesOf] using hlt)]; simp [bytesOf]
      clear hsk hcell hsum
      have hq1 : (joinL ((bytesOf ss).take k)).length + 1 + (⟨(quoteL (ss[k]).data.toList).toArray⟩ : ByteArray).size ≤ 140737488355328 := by
        have h1 := flatMap_qb_le (ss[k]).data.toList
        have h2 : (⟨(quoteL (ss[k]).data.toList).toArray⟩ : ByteArray).size = (quoteL (ss[k]).data.toList).length := by simp [ByteArray.size]
        rw [h2]
        simp only [quoteL, List.length_cons, List.length_append, List.length_nil]
        have h3 : (ss[k]).data.toList.length = (ss[k]).size := by simp
        omega
      by_cases hk0 : k = 0
      · have h0 : ¬ 0 < (k : Int) := by omega
        have HT := Lib.hid htk
        have HN : Hid ((bytesOf ss).take k = []) := Lib.hid (by rw [hk0]; rfl)
        have hq2 : (joinL ((bytesOf ss).take k)).length + (⟨(quoteL (ss[k]).data.toList).toArray⟩ : ByteArray).size ≤ 140737488355328 := by omega
        clear htk hk0
        cases hp : plainL (ss[k]).data.toList
        · have HP := Lib.hid hp
          clear hp
          have HJ : Hid (joinL ((bytesOf ss).take (k + 1)) = joinL ((bytesOf ss).take k) ++ quoteL (ss[k]).data.toList) := Lib.hid (by rw [HT.out, HN.out]; simp [joinL, encW_quote _ HP.out])
          clear HT HN
          go_wp2_with (first
            | (go_at_call 56; refine (rplain_any _ _ hsq).mono ?_; rw [HP.out]; rintro e w' ⟨rfl, rfl⟩)
            | (go_at_call 29; refine (rquote_any _ _ hsq).mono ?_; rintro e w3 ⟨rfl, hb3⟩; have hB3 := hB.more hb3)
            | (at_builtin; refine wpList_appstr byteT Tryd.underlying9 rfl (.tmp 26) _ rfl _ _ rfl hB3 ⟨(quoteL (ss[k]).data.toList).toArray⟩ rfl hq2 ?_; intro v2 w2 hB2))
          go_roundw
          case rel => exact ⟨k + 1, by omega, by go_num, by rw [HJ.out]; simpa using hB2⟩
          case measure => simp [intOf]; omega
        · have HP := Lib.hid hp
          clear hp
          have HJ : Hid (joinL ((bytesOf ss).take (k + 1)) = joinL ((bytesOf ss).take k) ++ (ss[k]).data.toList) := Lib.hid (by rw [HT.out, HN.out]; simp [joinL, encW_plain _ HP.out])
          clear HT HN
          go_wp2_with (first
            | (go_at_call 56; refine (rplain_any _ _ hsq).mono ?_; rw [HP.out]; rintro e w' ⟨rfl, rfl⟩)
            | (at_builtin; refine wpList_appstr byteT Tryd.underlying9 rfl (.tmp 26) _ rfl _ _ rfl hB ss[k] rfl (by omega) ?_; intro v2 w2 hB2))
          go_roundw
          case rel => exact ⟨k + 1, by omega, by go_num, by rw [HJ.out]; simpa using hB2⟩
          case measure => simp [intOf]; omega
      · have h0 : 0 < (k : Int) := by omega
        have HT := Lib.hid htk
        have HN : Hid ((bytesOf ss).take k ≠ []) := Lib.hid (by intro e; have h1 : ((bytesOf ss).take k).length = k := (by simp [bytesOf]; omega); rw [e] at h1; exact hk0 h1.symm)
        have hq2 : (joinL ((bytesOf ss).take k) ++ [32]).length + (⟨(quoteL (ss[k]).data.toList).toArray⟩ : ByteArray).size ≤ 140737488355328 := by simp only [List.length_append, List.length_cons, List.length_nil]; omega
        clear htk hk0
        cases hp : plainL (ss[k]).data.toList
        · have HP := Lib.hid hp
          clear hp
          have HJ : Hid (joinL ((bytesOf ss).take (k + 1)) = joinL ((bytesOf ss).take k) ++ [32] ++ quoteL (ss[k]).data.toList) := Lib.hid (by rw [HT.out, joinL_snoc _ _ HN.out, encW_quote _ HP.out]; simp)
          clear HT HN
          go_wp2_with (first
            | (at_builtin; refine wpList_app byteT rfl (.tmp 14) _ rfl _ (joinL ((bytesOf ss).take k)) rfl (hB.alloc _) _ [32] 1 _ rfl rfl (by omega) rfl (heap_alloc_new _ _) (by omega) ?_; intro v1 w1 hB1; have hc1 : w1.cell? ⟨b, o + k, none⟩ = some (.string ss[k]) := (hB1.bel.cell (p := ⟨b, o + k, none⟩) hb).trans HC.out)
            | (go_at_call 56; refine (rplain_any _ _ hsq).mono ?_; rw [HP.out]; rintro e w' ⟨rfl, rfl⟩)
            | (go_at_call 29; refine (rquote_any _ _ hsq).mono ?_; rintro e w3 ⟨rfl, hb3⟩; have hB3 := hB1.more hb3)
            | (at_builtin; refine wpList_appstr byteT Tryd.underlying9 rfl (.tmp 26) _ rfl _ _ rfl hB3 ⟨(quoteL (ss[k]).data.toList).toArray⟩ rfl hq2 ?_; intro v2 w2 hB2))
          go_roundw
          case rel => exact ⟨k + 1, by omega, by go_num, by rw [HJ.out]; simpa using hB2⟩
          case measure => simp [intOf]; omega
        · have HP := Lib.hid hp
          clear hp
          have HJ : Hid (joinL ((bytesOf ss).take (k + 1)) = joinL ((bytesOf ss).take k) ++ [32] ++ (ss[k]).data.toList) := Lib.hid (by rw [HT.out, joinL_snoc _ _ HN.out, encW_plain _ HP.out]; simp)
          clear HT HN
          go_wp2_with (first
            | (at_builtin; refine wpList_app byteT rfl (.tmp 14) _ rfl _ (joinL ((bytesOf ss).take k)) rfl (hB.alloc _) _ [32] 1 _ rfl rfl (by omega) rfl (heap_alloc_new _ _) (by omega) ?_; intro v1 w1 hB1; have hc1 : w1.cell? ⟨b, o + k, none⟩ = some (.string ss[k]) := (hB1.bel.cell (p := ⟨b, o + k, none⟩) hb).trans HC.out)
            | (go_at_call 56; refine (rplain_any _ _ hsq).mono ?_; rw [HP.out]; rintro e w' ⟨rfl, rfl⟩)
            | (at_builtin; refine wpList_appstr byteT Tryd.underlying9 rfl (.tmp 26) _ rfl _ _ rfl hB1 ss[k] rfl (by simp only [List.length_append, List.length_cons, List.length_nil]; omega) ?_; intro v2 w2 hB2))
          go_roundw
          case rel => exact ⟨k + 1, by omega, by go_num, by rw [HJ.out]; simpa using hB2⟩
          case measure => simp [intOf]; omega
    · have HK : Hid ((bytesOf ss).take k = bytesOf ss) := Lib.hid (List.take_of_length_le (by simp [bytesOf]; omega))
      have hconv := hB.text byteT Tryd.underlying9
      go_wp2
      go_ret
      exact ⟨by rw [HK.out]; rfl, hB.bel⟩

def sameB (a b : List ByteArray) : Bool := decide (bytesOf a = bytesOf b)
theorem bytesOf_len (ss : List ByteArray) : (bytesOf ss).length = ss.length := by simp [bytesOf]
theorem bytesOf_get (ss : List ByteArray) (k : Nat) (h : k < ss.length) : (bytesOf ss)[k]'(by simpa [bytesOf] using h) = (ss[k]).data.toList := by simp [bytesOf]
theorem take_step (a b : List (List UInt8)) (k : Nat) (ha : k < a.length) (hb : k < b.length) (h : a.take k = b.take k) (he : a[k] = b[k]) : a.take (k + 1) = b.take (k + 1) := by
  rw [List.take_succ_eq_append_getElem ha, List.take_succ_eq_append_getElem hb, h, he]
theorem not_same (a b : List (List UInt8)) (k : Nat) (ha : k < a.length) (hb : k < b.length) (he : a[k] ≠ b[k]) : a ≠ b := by
  intro e; subst e; exact he rfl

set_option maxRecDepth 100000 in
set_option maxHeartbeats 1000000 in
theorem same_any (va vb : Value) (sa sb : List ByteArray) (w : World) (hva : StrL w va sa) (hvb : StrL w vb sb) (hn : sa.length ≤ 2000) (hm : sb.length ≤ 2000) :
    Calls Tryd.prog 33 #[va, vb] w fun e w' => e = .returned (.bool (sameB sa sb)) ∧ ∃ n, w' = w.drewN n := by
  obtain ⟨A, c, rfl, hca⟩ := hva
  obtain ⟨B, d, rfl, hcb⟩ := hvb
  by_cases hl : sa.length = sb.length
  case neg =>
    have hl' : ((sa.length : Int) != (sb.length : Int)) = true := by simp; omega
    have HS : Hid (sameB sa sb = false) := Lib.hid (by
      simp only [sameB, decide_eq_false_iff_not]
      intro e
      have := congrArg List.length e
      rw [bytesOf_len, bytesOf_len] at this
      exact hl this)
    clear hl
    go_enter Tryd.func33, Tryd.ntmps33
    go_wp2
    go_ret
    exact ⟨ret_bool HS.out.symm, 0, rfl⟩
  have hl' : ((sa.length : Int) != (sb.length : Int)) = false := by simp [hl]
  have HL := Lib.hid hl
  clear hl
  go_enter Tryd.func33, Tryd.ntmps33
  go_wp2
  go_loopw [5] (fun i wr => ∃ k : Nat, k ≤ sa.length ∧ i = .int .i64 k ∧ Hid ((bytesOf sa).take k = (bytesOf sb).take k) ∧ ∃ n, wr = w.drewN n) (fun i _ => sa.length - (intOf i).toNat)
  case atStart => exact ⟨0, Nat.zero_le _, rfl, Lib.hid rfl, 0, rfl⟩
  case round =>
    obtain ⟨k, hk, rfl, HT, n, rfl⟩ := hrel
    by_cases hlt : k < sa.length
    · have hlt2 : k < sb.length := by have := HL.out; omega
      obtain ⟨b1, o1, rfl, hb1, hc1⟩ : ∃ b o, A = some ⟨b, o, none⟩ ∧ b < w.heap.size ∧ ∀ i (h : i < sa.length), w.cell? ⟨b, o + i, none⟩ = some (.string sa[i]) := by
        rcases hca with h | h
        · rw [h] at hlt; simp at hlt
        · exact h
      obtain ⟨b2, o2, rfl, hb2, hc2⟩ : ∃ b o, B = some ⟨b, o, none⟩ ∧ b < w.heap.size ∧ ∀ i (h : i < sb.length), w.cell? ⟨b, o + i, none⟩ = some (.string sb[i]) := by
        rcases hcb with h | h
        · rw [h] at hlt2; simp at hlt2
        · exact h
      have g1 := hc1 k hlt
      have g2 := hc2 k hlt2
      have i1 : (k : Int) < (sa.length : Int) := by omega
      have i2 : (k : Int) < (sb.length : Int) := by omega
      clear hc1 hc2 hca hcb
      by_cases he : (sa[k]).data.toList = (sb[k]).data.toList
      · have t1 : ((sa[k]).toList == (sb[k]).toList) = true := by rw [ByteArray.toList_eq, ByteArray.toList_eq, he]; simp
        have HT2 := Lib.hid (take_step (bytesOf sa) (bytesOf sb) k (by rw [bytesOf_len]; exact hlt) (by rw [bytesOf_len]; exact hlt2) HT.out (by rw [bytesOf_get _ _ hlt, bytesOf_get _ _ hlt2, he]))
        clear he
        go_wp2
        go_quiet (fail)
        go_wp2
        go_roundw
        case rel => exact ⟨k + 1, by omega, by go_num, HT2, _, rfl⟩
        case measure => simp [intOf]; omega
      · have t1 : ((sa[k]).toList == (sb[k]).toList) = false := by
          rw [ByteArray.toList_eq, ByteArray.toList_eq, beq_eq_false_iff_ne]; exact he
        have HS : Hid (sameB sa sb = false) := Lib.hid (by
          simp only [sameB, decide_eq_false_iff_not]
          exact not_same _ _ k (by rw [bytesOf_len]; exact hlt) (by rw [bytesOf_len]; exact hlt2) (by rw [bytesOf_get _ _ hlt, bytesOf_get _ _ hlt2]; exact he))
        clear he
        go_wp2
        go_quiet (fail)
        go_wp2
        go_ret
        exact ⟨ret_bool HS.out.symm, _, by rw [World.drewN_drewN]⟩
    · have HS : Hid (sameB sa sb = true) := Lib.hid (by
        have := HT.out
        have h2 := HL.out
        rw [List.take_of_length_le (by rw [bytesOf_len]; omega), List.take_of_length_le (by rw [bytesOf_len]; omega)] at this
        simp only [sameB, decide_eq_true_eq]
        exact this)
      go_wp2
      go_ret
      exact ⟨ret_bool HS.out.symm, n, rfl⟩

def sumL (ss : List ByteArray) : Nat := ((bytesOf ss).map List.length).sum
def longB (ss : List ByteArray) (n : Int) : Bool := decide (n < (ss.length : Int)) || decide (n < (sumL ss : Int))
theorem sumL_step (ss : List ByteArray) (k : Nat) (h : k < ss.length) : sumL (ss.take (k + 1)) = sumL (ss.take k) + (ss[k]).size := by
  rw [List.take_succ_eq_append_getElem h]
  simp only [sumL, bytesOf, List.map_append, List.map_cons, List.map_nil, List.sum_append, List.sum_cons, List.sum_nil, Array.length_toList, ByteArray.size_data, Nat.add_zero]
set_option maxRecDepth 100000 in
set_option maxHeartbeats 1000000 in
theorem long_any (v : Value) (ss : List ByteArray) (n : Int) (w : World) (hv : StrL w v ss) (hbig : ss.length ≤ 140737488355328) (hsz : ∀ s ∈ ss, s.size ≤ 140737488355328) (hn0 : 0 ≤ n) (hn1 : n ≤ 1000) :
    Calls Tryd.prog 30 #[v, .int .i64 n] w fun e w' => e = .returned (.bool (longB ss n)) ∧ w = w' := by
  obtain ⟨A, c, rfl, hca⟩ := hv
  by_cases h1 : n < (ss.length : Int)
  · have HS : Hid (longB ss n = true) := Lib.hid (by simp [longB, h1])
    go_enter Tryd.func30, Tryd.ntmps30
    go_wp2
    go_ret
    exact ⟨ret_bool HS.out.symm, rfl⟩
  have HS : Hid (longB ss n = decide (n < (sumL ss : Int))) := Lib.hid (by simp [longB, h1])
  have HZ := Lib.hid hsz
  clear hsz
  have hl : ss.length ≤ 1000 := by omega
  go_enter Tryd.func30, Tryd.ntmps30
  go_wp2
  go_loop [5, 6] (fun t i => ∃ (k : Nat) (a : Nat), k ≤ ss.length ∧ i = .int .i64 k ∧ t = .int .i64 a ∧ a ≤ k * 140737488355328 ∧ Hid (a = sumL (ss.take k))) (fun _ i => ss.length - (intOf i).toNat)
  case atStart => exact ⟨0, 0, Nat.zero_le _, rfl, rfl, by omega, Lib.hid rfl⟩
  case round =>
    obtain ⟨k, a, hk, rfl, rfl, ha, HA⟩ := hrel
    by_cases hlt : k < ss.length
    · obtain ⟨b1, o1, rfl, hb1, hc1⟩ : ∃ b o, A = some ⟨b, o, none⟩ ∧ b < w.heap.size ∧ ∀ i (h : i < ss.length), w.cell? ⟨b, o + i, none⟩ = some (.string ss[i]) := by
        rcases hca with h | h
        · rw [h] at hlt; simp at hlt
        · exact h
      have g1 := hc1 k hlt
      have hks := HZ.out ss[k] (List.getElem_mem hlt)
      have ha2 : a + (ss[k]).size ≤ (k + 1) * 140737488355328 := by omega
      have ha3 : a + (ss[k]).size ≤ 9223372036854775807 := by omega
      have HA2 : Hid (a + (ss[k]).size = sumL (ss.take (k + 1))) := Lib.hid (by rw [sumL_step _ _ hlt, ← HA.out])
      clear hc1 hca ha
      go_wp2
      go_round
      case rel => exact ⟨k + 1, a + (ss[k]).size, by omega, by go_num, by go_num, ha2, HA2⟩
      case measure => simp [intOf]; omega
    · have HE : Hid (sumL ss = a) := Lib.hid (by rw [HA.out, List.take_of_length_le (by omega)])
      go_wp2
      go_ret
      exact ⟨ret_bool (by rw [HS.out, HE.out]), rfl⟩
end Go.Proofs.YtcdpcbdmnmipcaaDoor
