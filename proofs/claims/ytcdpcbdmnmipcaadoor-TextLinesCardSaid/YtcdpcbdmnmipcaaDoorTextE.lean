/- Walks of Words. -/
import Derived.Test.YtcdpcbdmnmipcaaDoorTextD
import Derived.Lib.OthersKept
import Derived.WalkSmall
namespace Go.Proofs.YtcdpcbdmnmipcaaDoor
open Go.RowKit
set_option linter.unusedSimpArgs false
set_option linter.unusedVariables false

theorem decode_width (s : ByteArray) (pos : Nat) (h : pos < s.size) : 1 ≤ (Utf8.decode s pos).2 ∧ pos + (Utf8.decode s pos).2 ≤ s.size := by
  unfold Utf8.decode
  simp only
  split
  · exact ⟨by simp, by simp only; omega⟩
  · split
    · rename_i h1
      simp only [Bool.and_eq_true, decide_eq_true_eq] at h1
      split <;> simp only <;> omega
    · split
      · rename_i h1
        simp only [Bool.and_eq_true, decide_eq_true_eq] at h1
        split <;> simp only <;> omega
      · split
        · rename_i h1
          simp only [Bool.and_eq_true, decide_eq_true_eq] at h1
          split <;> simp only <;> omega
        · simp only; omega
/-- a rune of ASCII is one byte -/
theorem decode_small (s : ByteArray) (pos : Nat) (h : pos < s.size) (hr : (Utf8.decode s pos).1 < 128) : (s[pos]).toNat = (Utf8.decode s pos).1 ∧ (Utf8.decode s pos).2 = 1 := by
  by_cases hb : (s[pos]).toNat < 128
  · rw [decode_ascii s pos h hb]; exact ⟨rfl, rfl⟩
  · have := decode_big s pos h (by omega)
    omega

theorem strT : StrT Tryd.prog 34 9 := ⟨Tryd.underlying34, by kernel_rfl⟩

/-- what the range over a text has: its iterator -/
theorem iter_step (w : World) (N : Nat) (S : ByteArray) (pos p' : Nat) (hk : w.heap[N]? = some (.stringIter S pos)) :
    (w.iterAt N S p').heap[N]? = some (.stringIter S p') ∧ (w.iterAt N S p').heap.size = w.heap.size := ⟨Lib.iterAt_heap _ _ _ _ _ hk, Lib.iterAt_size _ _ _ _⟩
theorem SOwn.iterAt {e : TypeId} {B N : Nat} {w : World} {v : Value} {ss : List ByteArray} (h : SOwn e B w v ss) (hN : N < B) (S : ByteArray) (p : Nat) : SOwn e B (w.iterAt N S p) v ss :=
  ⟨ownsRow_iterAt h.own hN S p, by rw [Lib.iterAt_size]; exact h.base⟩

theorem word_yes (s : ByteArray) (t : List UInt8) (w : World) (hs : s.size ≤ 40000) (h : s.data.toList = encW t) :
    Calls Tryd.prog 50 #[.string s] w fun e w' => e = .returned (.tuple #[.string ⟨t.toArray⟩, .bool true]) ∧ Below w.heap.size w w' := by
  refine (word_any s w hs).mono ?_
  rintro e w' ⟨⟨t', h', rfl⟩ | ⟨h', _⟩, hb⟩
  · rw [encW_inj t t' (h.symm.trans h')]
    exact ⟨rfl, hb⟩
  · exact absurd h (h' t)
theorem word_no (s : ByteArray) (w : World) (hs : s.size ≤ 40000) (h : ∀ t, s.data.toList ≠ encW t) :
    Calls Tryd.prog 50 #[.string s] w fun e w' => e = .returned (.tuple #[.string ⟨#[]⟩, .bool false]) ∧ Below w.heap.size w w' := by
  refine (word_any s w hs).mono ?_
  rintro e w' ⟨⟨t', h', _⟩ | ⟨_, rfl⟩, hb⟩
  · exact absurd h' (h t')
  · exact ⟨rfl, hb⟩
theorem bytesOf_snoc (ss : List ByteArray) (t : List UInt8) : bytesOf (ss ++ [⟨t.toArray⟩]) = bytesOf ss ++ [t] := by simp [bytesOf]
/-- a piece of a line with a space behind it, cut out -/
theorem piece_eq (s S : ByteArray) (start pos : Nat) (t : List UInt8) (pre : List UInt8) (hb : S.data.toList = s.data.toList ++ [32]) (hp : pos ≤ s.size) (hst : start ≤ pos) (hc : (hlt : pos < S.size) → S[pos].toNat = 32)
    (he : S.data.toList.take start = pre) (ht : (s.extract start pos).data.toList = encW t) : S.data.toList.take (pos + 1) = pre ++ enc32 t := by
  have hls : s.data.toList.length = s.size := by simp
  have hlS : S.data.toList.length = S.size := by simp
  have hsz : S.size = s.size + 1 := by rw [← hlS, hb]; simp
  have hlt : pos < S.size := by omega
  rw [List.take_succ_eq_append_getElem (by omega)]
  have e1 : S.data.toList[pos]'(by omega) = 32 := UInt8.toNat_inj.1 (hc hlt)
  have e2 : S.data.toList.take pos = pre ++ encW t := by
    rw [← ht, extract_list, ← he]
    have e3 : S.data.toList.take pos = s.data.toList.take pos := by rw [hb, List.take_append_of_le_length (by omega)]
    have e4 : S.data.toList.take start = (s.data.toList.take pos).take start := by rw [hb, List.take_append_of_le_length (by omega), List.take_take, Nat.min_eq_left hst]
    rw [e3, e4, List.take_append_drop]
  rw [e1, e2, enc32, List.append_assoc]

set_option maxRecDepth 100000 in
set_option maxHeartbeats 4000000 in
theorem words_no (s : ByteArray) (w : World) (hs : s.size ≤ 40000) (h : ∀ l, s.data.toList ≠ joinL l) :
    Calls Tryd.prog 31 #[.string s] w fun e w' => e = .returned (.tuple #[.slice none 0 0, .int .i64 3]) ∧ Below w.heap.size w w' := by
  have h0 : 0 < s.size := by
    rcases Nat.eq_zero_or_pos s.size with h0 | h0
    · exact absurd (List.eq_nil_of_length_eq_zero (by simpa using h0)) (h [])
    · exact h0
  have t1 := isEmpty_no s h0
  have HJ := Lib.hid h
  clear h
  go_enter Tryd.func31, Tryd.ntmps31
  go_wp2
  go_step3
  go_wp2
  go_step3
  go_wp2
  generalize hS : s ++ ({ data := #[32] } : ByteArray) = S
  have hsz : S.size = s.size + 1 := by rw [← hS]; simp; rfl
  have hbl : S.data.toList = s.data.toList ++ [32] := by rw [← hS]; simp
  have HBL := Lib.hid hbl
  have HSZ := Lib.hid hsz
  have hS1 : S.size ≤ 40001 := by omega
  clear hS hbl hsz
  have hI0 : (w.iter S 0).heap[w.heap.size]? = some (.stringIter S 0) := World.iter_heap w S 0
  have hB0 : Below w.heap.size w (w.iter S 0) := (Below.refl _ _).alloc (Nat.le_refl _) _
  have hO0 : SOwn 9 (w.heap.size + 1) (w.iter S 0) (.slice none 0 0) [] := SOwn.nil (by simp [World.iter])
  go_loopw [4, 5, 6, 7] (fun v st q e wr => ∃ (pos start : Nat) (bq be : Bool) (ss : List ByteArray), pos ≤ S.size ∧ start ≤ pos ∧ ss.length ≤ pos ∧ st = .int .i64 start ∧ q = .bool bq ∧ e = .bool be ∧
      SOwn 9 (w.heap.size + 1) wr v ss ∧ wr.heap[w.heap.size]? = some (.stringIter S pos) ∧ Below w.heap.size w wr ∧ Hid (S.data.toList.take start = (bytesOf ss).flatMap enc32))
    (fun _ _ _ _ wr => S.size - wr.iterPos w.heap.size)
  case atStart => exact ⟨0, 0, false, false, [], Nat.zero_le _, Nat.le_refl _, Nat.le_refl _, rfl, rfl, rfl, hO0, hI0, hB0, Lib.hid rfl⟩
  case round =>
    obtain ⟨pos, start, bq, be, ss, hp, hst, hsl, rfl, rfl, rfl, hO, hI, hB, HE⟩ := hrel
    have hps := iterPos_of hI
    by_cases hlt : pos < S.size
    · obtain ⟨hd1, hd2⟩ := decode_width S pos hlt
      have hds := decode_small S pos hlt
      have hnext := fun ty => Lib.run_next_any_at (P := Tryd.prog) wr w.heap.size S pos ty hI hlt
      obtain ⟨r, n, hd⟩ : ∃ r n, Utf8.decode S pos = (r, n) := ⟨_, _, rfl⟩
      rw [hd] at hnext hd1 hd2 hds
      simp only at hnext hd1 hd2 hds
      obtain ⟨hI2, hz2⟩ := iter_step wr w.heap.size S pos (pos + n) hI
      have hO2 := hO.iterAt (Nat.lt_succ_self _) S (pos + n)
      have hB2 : Below w.heap.size w (wr.iterAt w.heap.size S (pos + n)) := Lib.below_iterAt hB (Nat.le_refl _) S (pos + n)
      generalize wr.iterAt w.heap.size S (pos + n) = wi at *
      have hps2 := Lib.hid (iterPos_of hI2)
      have HPS := Lib.hid hps
      have HDS := Lib.hid hds
      clear hd hds hps hO hI hB hz2
      cases be
      · by_cases h92 : r = 92
        · have t92 : ((r : Int) == 92) = true := by simp; omega
          clear h92
          go_wp2
          go_roundw
          case rel => exact ⟨pos + n, start, bq, bq, ss, hd2, by omega, by omega, rfl, rfl, rfl, hO2, hI2, hB2, HE⟩
          case measure => rw [hps2.out, HPS.out]; omega
        have t92 : ((r : Int) == 92) = false := by simp; omega
        by_cases h34 : r = 34
        · have t34 : ((r : Int) == 34) = true := by simp; omega
          clear h34 h92
          go_wp2
          go_roundw
          case rel => exact ⟨pos + n, start, !bq, false, ss, hd2, by omega, by omega, rfl, rfl, rfl, hO2, hI2, hB2, HE⟩
          case measure => rw [hps2.out, HPS.out]; omega
        have t34 : ((r : Int) == 34) = false := by simp; omega
        by_cases h32 : r = 32
        · have t32 : ((r : Int) == 32) = true := by simp; omega
          cases bq
          · have hc := HDS.out (by omega)
            obtain ⟨hc1, hc2⟩ := hc
            have hc3 : S[pos].toNat = 32 := by omega
            have hpe : pos ≤ s.size := by have := HSZ.out; omega
            have HN1 := Lib.hid hc2
            have hsx : (s.extract start pos).size ≤ 40000 := by simp [ByteArray.size_extract]; omega
            by_cases hw : ∃ t, (s.extract start pos).data.toList = encW t
            · obtain ⟨t, ht⟩ := hw
              have HT := Lib.hid ht
              have HE2 : Hid (S.data.toList.take (pos + 1) = (bytesOf (ss ++ [⟨t.toArray⟩])).flatMap enc32) := Lib.hid (by
                rw [bytesOf_snoc, List.flatMap_append, List.flatMap_singleton]
                exact piece_eq s S start pos t _ HBL.out hpe hst (fun _ => hc3) HE.out ht)
              clear h34 h92 h32 hc1 hc2 hc3 ht
              go_wp2_with (first
                | (go_at_call 50; refine (word_yes _ t _ hsx HT.out).mono ?_; rintro e w2 ⟨rfl, hb2⟩; have hO3 := hO2.more hb2; have hI3 := (hb2.block w.heap.size (by have := hO2.base; omega)).trans hI2; have hB3 := hB2.trans (hb2.mono hB2.size))
                | (at_builtin; refine wpList_sapp strT rfl _ _ rfl _ ss rfl (hO3.alloc _) _ ⟨t.toArray⟩ _ rfl (heap_alloc_new _ _) (by omega) ?_; intro v' w3 hO4 hb4))
              have hlt2 : w.heap.size < w2.heap.size := by have := hO3.base; omega
              have hI4 : w3.heap[w.heap.size]? = some (.stringIter S (pos + n)) := (hb4.block _ (by omega)).trans ((Below.heap_alloc w2 _ _ hlt2).trans hI3)
              have hB4 : Below w.heap.size w w3 := (hB3.alloc hB3.size _).trans (hb4.mono (by omega))
              have hn1 := HN1.out
              subst hn1
              go_roundw
              case rel => exact ⟨pos + 1, pos + 1, false, false, _, hd2, by omega, by simp; omega, by go_num, rfl, rfl, hO4, hI4, hB4, HE2⟩
              case measure => rw [iterPos_of hI4, HPS.out]; omega
            · have HW : Hid (∀ t, (s.extract start pos).data.toList ≠ encW t) := Lib.hid fun t ht => hw ⟨t, ht⟩
              clear h34 h92 h32 hc1 hc2 hc3 hw
              have hle : (start : Int) ≤ (s.size : Int) := by omega
              go_wp2_with (go_at_call 50; refine (word_no _ _ hsx HW.out).mono ?_; rintro e w2 ⟨rfl, hb2⟩)
              rw [Exit.noGoto_ret]
              go_ret2
              exact ⟨rfl, hB2.trans (hb2.mono hB2.size)⟩
          · clear h34 h92 h32
            go_wp2
            go_roundw
            case rel => exact ⟨pos + n, start, true, false, ss, hd2, by omega, by omega, rfl, rfl, rfl, hO2, hI2, hB2, HE⟩
            case measure => rw [hps2.out, HPS.out]; omega
        have t32 : ((r : Int) == 32) = false := by simp; omega
        clear h34 h92 h32
        go_wp2
        go_roundw
        case rel => exact ⟨pos + n, start, bq, false, ss, hd2, by omega, by omega, rfl, rfl, rfl, hO2, hI2, hB2, HE⟩
        case measure => rw [hps2.out, HPS.out]; omega
      · go_wp2
        go_roundw
        case rel => exact ⟨pos + n, start, bq, false, ss, hd2, by omega, by omega, rfl, rfl, rfl, hO2, hI2, hB2, HE⟩
        case measure => rw [hps2.out, HPS.out]; omega
    · have hnext := fun ty => Lib.run_next_end_at (P := Tryd.prog) wr w.heap.size S pos ty hI hlt
      have hle : (start : Int) ≤ (s.size : Int) := by
        have h1 := HSZ.out
        by_cases hs2 : start = S.size
        · have h2 := HE.out
          rw [hs2, List.take_of_length_le (by simp), HBL.out] at h2
          have hne : bytesOf ss ≠ [] := by
            intro e; rw [e] at h2
            simp at h2
          rw [flat_eq _ hne] at h2
          exact absurd (List.append_cancel_right h2) (HJ.out _)
        · omega
      go_wp2
      rw [Exit.noGoto_ret]
      go_ret2
      exact ⟨rfl, hB⟩

theorem scan_e (q : Bool) (c : UInt8) : scanQ q true c = q ∧ scanE q true c = false := ⟨rfl, rfl⟩
theorem scan_92 (q : Bool) (c : UInt8) (h : c.toNat = 92) : scanQ q false c = q ∧ scanE q false c = q := by simp [scanQ, scanE, h]
theorem scan_34 (q : Bool) (c : UInt8) (h : c.toNat = 34) : scanQ q false c = !q ∧ scanE q false c = false := by simp [scanQ, scanE, h]
theorem scan_o (q : Bool) (c : UInt8) (h : c.toNat ≠ 34) (h' : c.toNat ≠ 92) : scanQ q false c = q ∧ scanE q false c = false := by simp [scanQ, scanE, h, h']

set_option maxRecDepth 100000 in
set_option maxHeartbeats 4000000 in
theorem words_yes (s : ByteArray) (l : List (List UInt8)) (w : World) (hs : s.size ≤ 40000) (h : s.data.toList = joinL l) :
    Calls Tryd.prog 31 #[.string s] w fun e w' => (∃ v ss, e = .returned (.tuple #[v, .int .i64 0]) ∧ StrL w' v ss ∧ bytesOf ss = l) ∧ Below w.heap.size w w' := by
  by_cases h0 : 0 < s.size
  case neg =>
    have t1 := isEmpty_yes s (by omega)
    have hl : l = [] := by
      rcases Classical.em (l = []) with h' | h'
      · exact h'
      · have := joinL_ne l h'
        rw [← h] at this
        exact absurd (List.eq_nil_of_length_eq_zero (by simp only [Array.length_toList, ByteArray.size_data]; omega)) this
    subst hl
    clear h
    go_enter Tryd.func31, Tryd.ntmps31
    go_wp2
    go_step3
    go_wp2
    rw [Exit.noGoto_ret]
    go_ret2
    exact ⟨⟨_, [], rfl, ⟨none, 0, rfl, .inl rfl⟩, rfl⟩, Below.refl _ _⟩
  have t1 := isEmpty_no s h0
  have hln : l ≠ [] := by
    intro e; rw [e] at h
    have := congrArg List.length h
    simp [joinL] at this
    subst this
    simp at h0
  have HJ := Lib.hid h
  have HLN := Lib.hid hln
  clear h hln
  go_enter Tryd.func31, Tryd.ntmps31
  go_wp2
  go_step3
  go_wp2
  go_step3
  go_wp2
  generalize hS : s ++ ({ data := #[32] } : ByteArray) = S
  have hsz : S.size = s.size + 1 := by rw [← hS]; simp; rfl
  have hbl : S.data.toList = s.data.toList ++ [32] := by rw [← hS]; simp
  have HA0 := at_zero l
  rw [flat_eq l HLN.out, ← HJ.out, ← hbl] at HA0
  have HBL := Lib.hid hbl
  have HSZ := Lib.hid hsz
  have hS1 : S.size ≤ 40001 := by omega
  clear hS hbl hsz
  have hI0 : (w.iter S 0).heap[w.heap.size]? = some (.stringIter S 0) := World.iter_heap w S 0
  have hB0 : Below w.heap.size w (w.iter S 0) := (Below.refl _ _).alloc (Nat.le_refl _) _
  have hO0 : SOwn 9 (w.heap.size + 1) (w.iter S 0) (.slice none 0 0) [] := SOwn.nil (by simp [World.iter])
  go_loopw [4, 5, 6, 7] (fun v st q e wr => ∃ (pos start m : Nat) (bq be : Bool) (ss : List ByteArray), pos ≤ S.size ∧ ss.length ≤ pos ∧ st = .int .i64 start ∧ q = .bool bq ∧ e = .bool be ∧
      SOwn 9 (w.heap.size + 1) wr v ss ∧ wr.heap[w.heap.size]? = some (.stringIter S pos) ∧ Below w.heap.size w wr ∧ Hid (bytesOf ss = l.take m) ∧ At l S.data.toList m pos start bq be)
    (fun _ _ _ _ wr => S.size - wr.iterPos w.heap.size)
  case atStart => exact ⟨0, 0, 0, false, false, [], Nat.zero_le _, Nat.le_refl _, rfl, rfl, rfl, hO0, hI0, hB0, Lib.hid rfl, HA0⟩
  case round =>
    obtain ⟨pos, start, m, bq, be, ss, hp, hsl, rfl, rfl, rfl, hO, hI, hB, HE, hA⟩ := hrel
    have hps := iterPos_of hI
    have hst := at_le hA
    have hlS : S.data.toList.length = S.size := by simp
    by_cases hlt : pos < S.size
    · obtain ⟨hca, hA2⟩ := at_step hA (by omega)
      have hce : S.data.toList[pos]'(by omega) = S[pos] := rfl
      rw [hce] at hca hA2
      have hnext := fun ty => Lib.run_next_ascii_at (P := Tryd.prog) wr w.heap.size S pos ty hI hlt hca
      obtain ⟨hI2, hz2⟩ := iter_step wr w.heap.size S pos (pos + 1) hI
      have hO2 := hO.iterAt (Nat.lt_succ_self _) S (pos + 1)
      have hB2 : Below w.heap.size w (wr.iterAt w.heap.size S (pos + 1)) := Lib.below_iterAt hB (Nat.le_refl _) S (pos + 1)
      generalize wr.iterAt w.heap.size S (pos + 1) = wi at *
      have hps2 := Lib.hid (iterPos_of hI2)
      have HPS := Lib.hid hps
      clear hps hO hI hB hz2 hlS hce
      rcases hA2 with ⟨h32, rfl, rfl, t, htk, hpc, hA3⟩ | ⟨hok, hA3⟩
      · have t92 : ((S[pos].toNat : Int) == 92) = false := by simp; omega
        have t34 : ((S[pos].toNat : Int) == 34) = false := by simp; omega
        have t32 : ((S[pos].toNat : Int) == 32) = true := by simp; omega
        have hpe : pos ≤ s.size := by have := HSZ.out; omega
        have hsx : (s.extract start pos).size ≤ 40000 := by simp [ByteArray.size_extract]; omega
        have HT : Hid ((s.extract start pos).data.toList = encW t) := Lib.hid (by
          rw [extract_list, ← hpc, HBL.out, List.take_append_of_le_length (by simpa using hpe)])
        have HE2 : Hid (bytesOf (ss ++ [⟨t.toArray⟩]) = l.take (m + 1)) := Lib.hid (by rw [bytesOf_snoc, HE.out, htk])
        clear h32 htk hpc hca hA
        go_wp2_with (first
          | (go_at_call 50; refine (word_yes _ t _ hsx HT.out).mono ?_; rintro e w2 ⟨rfl, hb2⟩; have hO3 := hO2.more hb2; have hI3 := (hb2.block w.heap.size (by have := hO2.base; omega)).trans hI2; have hB3 := hB2.trans (hb2.mono hB2.size))
          | (at_builtin; refine wpList_sapp strT rfl _ _ rfl _ ss rfl (hO3.alloc _) _ ⟨t.toArray⟩ _ rfl (heap_alloc_new _ _) (by omega) ?_; intro v' w3 hO4 hb4))
        have hlt2 : w.heap.size < w2.heap.size := by have := hO3.base; omega
        have hI4 : w3.heap[w.heap.size]? = some (.stringIter S (pos + 1)) := (hb4.block _ (by omega)).trans ((Below.heap_alloc w2 _ _ hlt2).trans hI3)
        have hB4 : Below w.heap.size w w3 := (hB3.alloc hB3.size _).trans (hb4.mono (by omega))
        go_roundw
        case rel => exact ⟨pos + 1, pos + 1, m + 1, false, false, _, by omega, by simp; omega, by go_num, rfl, rfl, hO4, hI4, hB4, HE2, hA3⟩
        case measure => rw [iterPos_of hI4, HPS.out]; omega
      · cases be
        · by_cases h92 : S[pos].toNat = 92
          · have t92 : ((S[pos].toNat : Int) == 92) = true := by simp; omega
            obtain ⟨e1, e2⟩ := scan_92 bq _ h92
            rw [e1, e2] at hA3
            clear h92 hok e1 e2 hca hA
            go_wp2
            go_roundw
            case rel => exact ⟨pos + 1, start, m, bq, bq, ss, by omega, by omega, rfl, rfl, rfl, hO2, hI2, hB2, HE, hA3⟩
            case measure => rw [hps2.out, HPS.out]; omega
          have t92 : ((S[pos].toNat : Int) == 92) = false := by simp; omega
          by_cases h34 : S[pos].toNat = 34
          · have t34 : ((S[pos].toNat : Int) == 34) = true := by simp; omega
            obtain ⟨e1, e2⟩ := scan_34 bq _ h34
            rw [e1, e2] at hA3
            clear h34 h92 hok e1 e2 hca hA
            go_wp2
            go_roundw
            case rel => exact ⟨pos + 1, start, m, !bq, false, ss, by omega, by omega, rfl, rfl, rfl, hO2, hI2, hB2, HE, hA3⟩
            case measure => rw [hps2.out, HPS.out]; omega
          have t34 : ((S[pos].toNat : Int) == 34) = false := by simp; omega
          obtain ⟨e1, e2⟩ := scan_o bq _ h34 h92
          rw [e1, e2] at hA3
          by_cases h32 : S[pos].toNat = 32
          · have t32 : ((S[pos].toNat : Int) == 32) = true := by simp; omega
            have hbq : bq = true := by simpa [h32] using hok
            subst hbq
            clear h34 h92 h32 hok e1 e2 hca hA
            go_wp2
            go_roundw
            case rel => exact ⟨pos + 1, start, m, true, false, ss, by omega, by omega, rfl, rfl, rfl, hO2, hI2, hB2, HE, hA3⟩
            case measure => rw [hps2.out, HPS.out]; omega
          have t32 : ((S[pos].toNat : Int) == 32) = false := by simp; omega
          clear h34 h92 h32 hok e1 e2 hca hA
          go_wp2
          go_roundw
          case rel => exact ⟨pos + 1, start, m, bq, false, ss, by omega, by omega, rfl, rfl, rfl, hO2, hI2, hB2, HE, hA3⟩
          case measure => rw [hps2.out, HPS.out]; omega
        · obtain ⟨e1, e2⟩ := scan_e bq S[pos]
          rw [e1, e2] at hA3
          clear hok e1 e2 hca hA
          go_wp2
          go_roundw
          case rel => exact ⟨pos + 1, start, m, bq, false, ss, by omega, by omega, rfl, rfl, rfl, hO2, hI2, hB2, HE, hA3⟩
          case measure => rw [hps2.out, HPS.out]; omega
    · have hnext := fun ty => Lib.run_next_end_at (P := Tryd.prog) wr w.heap.size S pos ty hI hlt
      obtain ⟨htk, hse⟩ := at_end hA (by omega)
      have HTK := Lib.hid htk
      have hle : ¬ (start : Int) ≤ (s.size : Int) := by have := HSZ.out; omega
      clear htk hlS hps hA
      go_wp2
      go_ret2
      exact ⟨⟨_, ss, rfl, hO.strL, by rw [HE.out, HTK.out]⟩, hB⟩
end Go.Proofs.YtcdpcbdmnmipcaaDoor
