/- Walks of the reference: hex, Unquote, plain, Join. -/
import Derived.Test.YtcdpcbdmnmipcaaDoorTextE
import Derived.Deep.RegionHeld3
namespace Go.Proofs.YtcdpcbdmnmipcaaDoor
open Go.RowKit
set_option linter.unusedSimpArgs false
set_option linter.unusedVariables false

theorem hexV_of (k : Nat) (hk : k < 16) (c : UInt8) (h : hexd k = c) : hexV c = k := by
  rw [← h]; exact hexV_hexd ⟨k, hk⟩
theorem hexV_none (c : UInt8) (h : ∀ j, j < 16 → hexd j ≠ c) : hexV c = -1 := by
  have h1 := hexV_lt c
  have h2 := hexV_ge c
  by_cases h0 : 0 ≤ hexV c
  · exact absurd (hexd_hexV c h0) (h _ (by omega))
  · omega
set_option maxRecDepth 100000 in
set_option maxHeartbeats 1000000 in
theorem hex_any (c : UInt8) (w : World) :
    Calls Tryd.prog 47 #[.int .u8 c.toNat] w fun e w' => e = .returned (.int .i64 (hexV c)) ∧ w = w' := by
  go_enter Tryd.func47, Tryd.ntmps47
  go_wp2
  go_loop [3] (fun i => ∃ k : Nat, k ≤ 16 ∧ i = .int .i64 k ∧ Hid (∀ j, j < k → hexd j ≠ c)) (fun i => 16 - (intOf i).toNat)
  case atStart => exact ⟨0, Nat.zero_le _, rfl, Lib.hid fun j hj => absurd hj (by omega)⟩
  case round =>
    obtain ⟨k, hk, rfl, He⟩ := hrel
    by_cases hlt : k < 16
    · have e1 := hexAt_eq k k rfl
      have hlt' : (k : Int) < 16 := by omega
      by_cases hc : hexd k = c
      · have t1 : (((hexd k).toNat : Int) == (c.toNat : Int)) = true := by rw [hc]; simp
        have HV := Lib.hid (hexV_of k hlt c hc)
        clear hc
        go_wp2
        go_ret
        exact ⟨ret_int HV.out.symm, rfl⟩
      · have t1 : (((hexd k).toNat : Int) == (c.toNat : Int)) = false := by
          simp only [beq_eq_false_iff_ne]
          intro e
          exact hc (UInt8.toNat_inj.1 (by omega))
        have HC := Lib.hid hc
        clear hc
        go_wp2
        go_round
        case rel => exact ⟨k + 1, by omega, by go_num, Lib.hid fun j hj => by
          by_cases h : j = k
          · rw [h]; exact HC.out
          · exact He.out j (by omega)⟩
        case measure => simp [intOf]; omega
    · have HV := Lib.hid (hexV_none c fun j hj => He.out j (by omega))
      go_wp2
      go_ret
      exact ⟨ret_int HV.out.symm, rfl⟩

/-- the head of what is left, taken off -/
theorem drop_head {s : ByteArray} {k : Nat} {x : UInt8} {r : List UInt8} (h : s.data.toList.drop k = x :: r) : ∃ hk : k < s.size, s[k] = x ∧ s.data.toList.drop (k + 1) = r := by
  have hk : k < s.size := by
    rcases Nat.lt_or_ge k s.size with h' | h'
    · exact h'
    · rw [List.drop_eq_nil_of_le (by simpa using h')] at h; cases h
  rw [bytes_drop s k hk] at h
  exact ⟨hk, (List.cons.inj h).1, (List.cons.inj h).2⟩
theorem hexB_wrap (a b : UInt8) (ha : 0 ≤ hexV a) (hb : 0 ≤ hexV b) :
    IntKind.i64.wrap (16 * hexV a) = 16 * hexV a ∧ IntKind.i64.wrap (16 * hexV a + hexV b) = 16 * hexV a + hexV b ∧ IntKind.u8.wrap (16 * hexV a + hexV b) = ((hexB a b).toNat : Int) := by
  have h1 := hexV_lt a
  have h2 := hexV_lt b
  rw [hexB_toNat a b ha hb, IntKind.wrap_u8, IntKind.wrap_i64, IntKind.wrap_i64]
  omega

set_option maxRecDepth 100000 in
set_option maxHeartbeats 4000000 in
theorem runquote_no (s : ByteArray) (w : World) (hs : s.size ≤ 40000) (h : ∀ t, s.data.toList ≠ quoteL t) :
    Calls Tryd.prog 27 #[.string s] w fun e w' => e = .returned (.tuple #[.string ⟨#[]⟩, .int .i64 3]) ∧ Below w.heap.size w w' := by
  have HQ := Lib.hid h
  clear h
  go_enter Tryd.func27, Tryd.ntmps27
  go_wp2
  have hb0 : Buf 5 w.heap.size w w (.slice none 0 0) [] := Buf.nil (Below.refl _ _) (Nat.le_refl _)
  go_loopw [4, 5] (fun v i wr => ∃ (k : Nat) (l : List UInt8), 1 ≤ k ∧ i = .int .i64 k ∧ Buf 5 w.heap.size w wr v l ∧ l.length ≤ k ∧ (k ≤ s.size ∨ k = 1)) (fun _ i _ => s.size + 1 - (intOf i).toNat)
  case atStart => exact ⟨1, [], Nat.le_refl _, rfl, hb0, by simp, .inr rfl⟩
  case round =>
    obtain ⟨k, l, hk1, rfl, hB, hl, hk⟩ := hrel
    by_cases hlt : (k : Int) < (s.size : Int) - 1
    · have hk0 : k < s.size := by omega
      have hk2 : k + 1 < s.size := by omega
      have hl3 : l.length ≤ 40000 := by omega
      by_cases hc : s[k].toNat = 92
      · have c1 : ((s[k].toNat : Int) != 92) = false := by simp; omega
        by_cases hx : s[k + 1].toNat = 120
        · have c2 : ((s[k + 1].toNat : Int) != 120) = false := by simp; omega
          by_cases h3 : k + 3 < s.size
          · have h3' : (k : Int) + 1 + 2 < (s.size : Int) := by omega
            have hk3 : k + 1 + 1 < s.size := by omega
            have hk4 : k + 1 + 2 < s.size := by omega
            by_cases ha : hexV s[k + 1 + 1] < 0
            · clear hc hx
              go_wp2_with (go_at_call 47; refine (hex_any _ _).mono ?_; rintro e w' ⟨rfl, rfl⟩)
              go_ret2
              exact ⟨rfl, hB.bel⟩
            · by_cases hb : hexV s[k + 1 + 2] < 0
              · clear hc hx
                go_wp2_with (go_at_call 47; refine (hex_any _ _).mono ?_; rintro e w' ⟨rfl, rfl⟩)
                go_ret2
                exact ⟨rfl, hB.bel⟩
              · obtain ⟨e1, e2, e3⟩ := hexB_wrap s[k + 1 + 1] s[k + 1 + 2] (by omega) (by omega)
                have i2 : (k : Int) + 1 + 1 < (s.size : Int) := by omega
                have i3 : (k : Int) + 1 + 2 < (s.size : Int) := by omega
                clear hc hx
                go_wp2_with (go_at_call 47; refine (hex_any _ _).mono ?_; rintro e w' ⟨rfl, rfl⟩)
                have w2 : IntKind.i64.wrap ((k : Int) + 1 + 1) = (k : Int) + 1 + 1 := IntWalk.i64_in _ (by omega)
                have w3 : IntKind.i64.wrap ((k : Int) + 1 + 2) = (k : Int) + 1 + 2 := IntWalk.i64_in _ (by omega)
                have z2 : (0 : Int) ≤ (k : Int) + 1 + 1 := by omega
                have z3 : (0 : Int) ≤ (k : Int) + 1 + 2 := by omega
                have n2 : ((k : Int) + 1 + 1).toNat = k + 1 + 1 := by omega
                have n3 : ((k : Int) + 1 + 2).toNat = k + 1 + 2 := by omega
                go_region_held3 (fun _ => True) (trivial) ((first | (go_at_call 47; refine (hex_any _ _).mono ?_; rintro e w' ⟨rfl, rfl⟩) | (refine step_app byteT rfl _ _ rfl _ l rfl ((hB.alloc _).drew) _ [hexB s[k + 1 + 1] s[k + 1 + 2]] 1 _ rfl rfl (by omega) rfl (heap_alloc_new _ _) (by omega) ?_; intro v' w1 hbuf')))
                all_goals go_wp2
                all_goals
                  go_roundw
                  case rel => exact ⟨k + 4, _, by omega, by go_num, hbuf', by simp; omega, .inl (by omega)⟩
                  case measure => simp [intOf]; omega
          · have h3' : ¬ (k : Int) + 1 + 2 < (s.size : Int) := by omega
            clear hc hx
            go_wp2
            go_ret2
            exact ⟨rfl, hB.bel⟩
        · have c2 : ((s[k + 1].toNat : Int) != 120) = true := by simp; omega
          clear hc hx
          go_wp2_with (at_builtin; refine wpList_app byteT rfl _ _ rfl _ l rfl (hB.alloc _) _ [s[k + 1]] 1 _ rfl rfl (by omega) rfl (heap_alloc_new _ _) (by omega) ?_; intro v' w1 hbuf')
          go_roundw
          case rel => exact ⟨k + 2, _, by omega, by go_num, hbuf', by simp; omega, .inl (by omega)⟩
          case measure => simp [intOf]; omega
      · have c1 : ((s[k].toNat : Int) != 92) = true := by simp; omega
        clear hc
        go_wp2_with (at_builtin; refine wpList_app byteT rfl _ _ rfl _ l rfl (hB.alloc _) _ [s[k]] 1 _ rfl rfl (by omega) rfl (heap_alloc_new _ _) (by omega) ?_; intro v' w1 hbuf')
        go_roundw
        case rel => exact ⟨k + 1, _, by omega, by go_num, hbuf', by simp; omega, .inl (by omega)⟩
        case measure => simp [intOf]; omega
    · have hl3 : l.length ≤ 40000 := by omega
      have hconv := hB.text byteT Tryd.underlying9
      have hsz : (⟨l.toArray⟩ : ByteArray).size ≤ 40000 := by simpa [ByteArray.size] using hl3
      have hne : (quoteL l == s.toList) = false := by
        rw [beq_eq_false_iff_ne, ByteArray.toList_eq]
        intro e
        exact HQ.out l e.symm
      go_wp2_with (go_at_call 29; refine (rquote_any _ _ hsz).mono ?_; rintro e w2 ⟨rfl, hb2⟩)
      go_ret2
      exact ⟨rfl, hB.bel.trans (hb2.mono hB.base)⟩

set_option maxRecDepth 100000 in
set_option maxHeartbeats 4000000 in
theorem runquote_yes (s : ByteArray) (t : List UInt8) (w : World) (hs : s.size ≤ 40000) (h : s.data.toList = quoteL t) :
    Calls Tryd.prog 27 #[.string s] w fun e w' => e = .returned (.tuple #[.string ⟨t.toArray⟩, .int .i64 0]) ∧ Below w.heap.size w w' := by
  have HQ := Lib.hid h
  have htl : t.length ≤ 40000 := by
    have h1 := congrArg List.length h
    have h2 := flatMap_qb_ge t
    simp only [quoteL, List.length_cons, List.length_append, List.length_nil, Array.length_toList, ByteArray.size_data] at h1
    omega
  have hd0 : Hid (s.data.toList.drop 1 = (t.drop 0).flatMap qb ++ [34]) := Lib.hid (by rw [h]; rfl)
  clear h
  go_enter Tryd.func27, Tryd.ntmps27
  go_wp2
  have hb0 : Buf 5 w.heap.size w w (.slice none 0 0) [] := Buf.nil (Below.refl _ _) (Nat.le_refl _)
  go_loopw [4, 5] (fun v i wr => ∃ (k j : Nat), i = .int .i64 k ∧ j ≤ t.length ∧ Buf 5 w.heap.size w wr v (t.take j) ∧ Hid (s.data.toList.drop k = (t.drop j).flatMap qb ++ [34])) (fun _ i _ => s.size + 1 - (intOf i).toNat)
  case atStart => exact ⟨1, 0, rfl, Nat.zero_le _, by simpa using hb0, hd0⟩
  case round =>
    obtain ⟨k, j, rfl, hj, hB, HD⟩ := hrel
    have hlk : s.size - k = ((t.drop j).flatMap qb).length + 1 := by
      have := congrArg List.length HD.out
      simp only [List.length_drop, List.length_append, List.length_cons, List.length_nil, Array.length_toList, ByteArray.size_data] at this
      omega
    have hl3 : (t.take j).length ≤ 40000 := by simp; omega
    by_cases hjl : j < t.length
    · have hdj : t.drop j = t[j] :: t.drop (j + 1) := List.drop_eq_getElem_cons hjl
      have htj : t.take (j + 1) = t.take j ++ [t[j]] := List.take_succ_eq_append_getElem hjl
      have hd := HD.out
      rw [hdj, List.flatMap_cons] at hlk hd
      rw [List.append_assoc] at hd
      rw [List.length_append] at hlk
      have HTJ := Lib.hid htj
      generalize t[j] = c at hlk hd HTJ
      clear hdj htj HD
      have hqp := qb_pos c
      cases hx : hxB c
      · cases hb : bsB c
        · have hq : qb c = [c] := by rw [qb, hx, hb]; rfl
          rw [hq] at hd hlk
          obtain ⟨hk0, e0, hd1⟩ := drop_head hd
          have hk1 : (k : Int) < (s.size : Int) - 1 := by simp only [List.length_cons, List.length_nil, List.length_append] at hlk; omega
          have h92 := bsB_92 c hb
          have c1 : ((s[k].toNat : Int) != 92) = true := by rw [e0]; simp; omega
          have HE0 := Lib.hid e0
          have HD1 := Lib.hid hd1
          clear e0 hd hd1 hq hlk hqp h92
          go_wp2_with (at_builtin; refine wpList_app byteT rfl _ _ rfl _ (t.take j) rfl (hB.alloc _) _ [s[k]] 1 _ rfl rfl (by omega) rfl (heap_alloc_new _ _) (by omega) ?_; intro v' w1 hbuf')
          go_roundw
          case rel => exact ⟨k + 1, j + 1, by go_num, by omega, by rw [HTJ.out, ← HE0.out]; exact hbuf', HD1⟩
          case measure => simp [intOf]; omega
        · have hq : qb c = [92, c] := by rw [qb, hx, hb]; rfl
          rw [hq] at hd hlk
          obtain ⟨hk0, e0, hd1⟩ := drop_head hd
          obtain ⟨hk1, e1, hd2⟩ := drop_head hd1
          have hk2 : (k : Int) < (s.size : Int) - 1 := by simp only [List.length_cons, List.length_nil, List.length_append] at hlk; omega
          have c1 : ((s[k].toNat : Int) != 92) = false := by rw [e0]; rfl
          have c2 : ((s[k + 1].toNat : Int) != 120) = true := by rw [e1]; simp [bsB] at hb; simp; omega
          have HE1 := Lib.hid e1
          have HD2 := Lib.hid hd2
          clear e0 e1 hd hd1 hd2 hq hlk hqp
          go_wp2_with (at_builtin; refine wpList_app byteT rfl _ _ rfl _ (t.take j) rfl (hB.alloc _) _ [s[k + 1]] 1 _ rfl rfl (by omega) rfl (heap_alloc_new _ _) (by omega) ?_; intro v' w1 hbuf')
          go_roundw
          case rel => exact ⟨k + 2, j + 1, by go_num, by omega, by rw [HTJ.out, ← HE1.out]; exact hbuf', HD2⟩
          case measure => simp [intOf]; omega
      · have hq : qb c = [92, 120, hexd (c.toNat / 16), hexd (c.toNat % 16)] := by rw [qb, hx]; rfl
        rw [hq] at hd hlk
        obtain ⟨hk0, e0, hd1⟩ := drop_head hd
        obtain ⟨hk1, e1, hd2⟩ := drop_head hd1
        obtain ⟨hk2, e2, hd3⟩ := drop_head hd2
        obtain ⟨hk3, e3, hd4⟩ := drop_head hd3
        have e2' : s[k + 1 + 1] = hexd (c.toNat / 16) := e2
        have hk3' : k + 1 + 2 < s.size := by omega
        have e3' : s[k + 1 + 2] = hexd (c.toNat % 16) := e3
        have hkk : (k : Int) < (s.size : Int) - 1 := by simp only [List.length_cons, List.length_nil, List.length_append] at hlk; omega
        have h3' : (k : Int) + 1 + 2 < (s.size : Int) := by omega
        have c1 : ((s[k].toNat : Int) != 92) = false := by rw [e0]; rfl
        have c2 : ((s[k + 1].toNat : Int) != 120) = false := by rw [e1]; rfl
        have hv1 := hexV_hexd ⟨c.toNat / 16, by have := c.toNat_lt; omega⟩
        have hv2 := hexV_hexd ⟨c.toNat % 16, by omega⟩
        simp only at hv1 hv2
        have ha : ¬ hexV s[k + 1 + 1] < 0 := by rw [e2', hv1]; omega
        have hb : ¬ hexV s[k + 1 + 2] < 0 := by rw [e3', hv2]; omega
        have HBB : Hid (hexB s[k + 1 + 1] s[k + 1 + 2] = c) := Lib.hid (by rw [e2', e3']; exact hexB_hexd c)
        obtain ⟨x1, x2, x3⟩ := hexB_wrap s[k + 1 + 1] s[k + 1 + 2] (by omega) (by omega)
        have i2 : (k : Int) + 1 + 1 < (s.size : Int) := by omega
        have HD4 := Lib.hid hd4
        clear e0 e1 e2 e3 e2' e3' hd hd1 hd2 hd3 hd4 hq hlk hqp hv1 hv2
        go_wp2_with (go_at_call 47; refine (hex_any _ _).mono ?_; rintro e w' ⟨rfl, rfl⟩)
        have w2 : IntKind.i64.wrap ((k : Int) + 1 + 1) = (k : Int) + 1 + 1 := IntWalk.i64_in _ (by omega)
        have w3 : IntKind.i64.wrap ((k : Int) + 1 + 2) = (k : Int) + 1 + 2 := IntWalk.i64_in _ (by omega)
        have z2 : (0 : Int) ≤ (k : Int) + 1 + 1 := by omega
        have z3 : (0 : Int) ≤ (k : Int) + 1 + 2 := by omega
        have n2 : ((k : Int) + 1 + 1).toNat = k + 1 + 1 := by omega
        have n3 : ((k : Int) + 1 + 2).toNat = k + 1 + 2 := by omega
        go_region_held3 (fun _ => True) (trivial) ((first | (go_at_call 47; refine (hex_any _ _).mono ?_; rintro e w' ⟨rfl, rfl⟩) | (refine step_app byteT rfl _ _ rfl _ (t.take j) rfl ((hB.alloc _).drew) _ [hexB s[k + 1 + 1] s[k + 1 + 2]] 1 _ rfl rfl (by omega) rfl (heap_alloc_new _ _) (by omega) ?_; intro v' w1 hbuf')))
        all_goals go_wp2
        all_goals
          go_roundw
          case rel => exact ⟨k + 4, j + 1, by go_num, by omega, by rw [HTJ.out, ← HBB.out]; exact hbuf', HD4⟩
          case measure => simp [intOf]; omega
    · have hjt : t.drop j = [] := List.drop_eq_nil_of_le (by omega)
      have htt : t.take j = t := List.take_of_length_le (by omega)
      rw [hjt] at hlk
      rw [htt] at hB hl3
      have hkk : ¬ (k : Int) < (s.size : Int) - 1 := by simp only [List.flatMap_nil, List.length_nil] at hlk; omega
      clear hjt htt hlk HD
      have hconv := hB.text byteT Tryd.underlying9
      have hsz : (⟨t.toArray⟩ : ByteArray).size ≤ 40000 := by simpa [ByteArray.size] using hl3
      have hne : (quoteL t == s.toList) = true := by
        rw [beq_iff_eq, ByteArray.toList_eq]
        exact HQ.out.symm
      go_wp2_with (go_at_call 29; refine (rquote_any _ _ hsz).mono ?_; rintro e w2 ⟨rfl, hb2⟩; have hconv2 := (hB.more hb2).text byteT Tryd.underlying9)
      go_ret2
      exact ⟨rfl, hB.bel.trans (hb2.mono hB.base)⟩

/-! ### the reference's plain -/
set_option maxRecDepth 100000 in
set_option maxHeartbeats 1000000 in
theorem rplain_any (s : ByteArray) (w : World) (hs : s.size ≤ 40000) :
    Calls Tryd.prog 56 #[.string s] w fun e w' => e = .returned (.bool (plainL s.data.toList)) ∧ w = w' := by
  have HP : Hid (plainL s.data.toList = (!s.data.toList.isEmpty && allFrom okB s 0)) := Lib.hid rfl
  go_enter Tryd.func56, Tryd.ntmps56
  go_wp2
  go_loop [3] (fun i => ∃ k : Nat, k ≤ s.size ∧ i = .int .i64 k ∧ allFrom okB s 0 = allFrom okB s k) (fun i => s.size - (intOf i).toNat)
  case atStart => exact ⟨0, Nat.zero_le _, rfl, rfl⟩
  case round =>
    obtain ⟨k, hk, rfl, he⟩ := hrel
    have He := Lib.hid he
    clear he
    by_cases hlt : k < s.size
    · have Hc := Lib.hid (allFrom_step okB s k hlt)
      by_cases h1 : (s[k].toNat : Int) < 33
      · have HO : Hid (okB s[k] = false) := Lib.hid (by simp [okB]; omega)
        go_wp2
        go_ret
        exact ⟨ret_bool (by rw [HP.out, He.out, Hc.out, HO.out]; simp), rfl⟩
      · by_cases h2 : 126 < (s[k].toNat : Int)
        · have HO : Hid (okB s[k] = false) := Lib.hid (by simp [okB]; omega)
          go_wp2
          go_ret
          exact ⟨ret_bool (by rw [HP.out, He.out, Hc.out, HO.out]; simp), rfl⟩
        · by_cases h3 : s[k].toNat = 34
          · have h3' : ((s[k].toNat : Int) == 34) = true := by simp; omega
            have HO : Hid (okB s[k] = false) := Lib.hid (by simp [okB, h3])
            clear h3
            go_wp2
            go_ret
            exact ⟨ret_bool (by rw [HP.out, He.out, Hc.out, HO.out]; simp), rfl⟩
          · have h3' : ((s[k].toNat : Int) == 34) = false := by simp; omega
            have HO : Hid (okB s[k] = true) := Lib.hid (by simp [okB]; omega)
            clear h3
            go_wp2
            go_round
            case rel => exact ⟨k + 1, by omega, by go_num, by rw [He.out, Hc.out, HO.out]; rfl⟩
            case measure => simp [intOf]; omega
    · have Hc := Lib.hid (allFrom_end okB s k (by omega))
      by_cases h0 : 0 < s.size
      · have t1 := isEmpty_no s h0
        have HE : Hid (s.data.toList.isEmpty = false) := Lib.hid (by rw [← ByteArray.toList_eq]; exact t1)
        go_wp2
        go_ret
        exact ⟨ret_bool (by rw [HP.out, HE.out, He.out, Hc.out]; rfl), rfl⟩
      · have t1 := isEmpty_yes s (by omega)
        have HE : Hid (s.data.toList.isEmpty = true) := Lib.hid (by rw [← ByteArray.toList_eq]; exact t1)
        go_wp2
        go_ret
        exact ⟨ret_bool (by rw [HP.out, HE.out]; rfl), rfl⟩
end Go.Proofs.YtcdpcbdmnmipcaaDoor
