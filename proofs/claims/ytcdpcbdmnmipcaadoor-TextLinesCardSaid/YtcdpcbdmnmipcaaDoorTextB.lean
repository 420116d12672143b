/- Walks of Quote, of its reference, and of their parts. -/
import Derived.Test.YtcdpcbdmnmipcaaDoorTextA
import Derived.Test.YtcdpcbdmnmipcaaDoorPlainA
import Derived.Deep.AppendLies
import Derived.Lib.UnsafeStr
import Derived.Lib.BufferWrite
import Derived.BigQuiet
import Derived.Deep.QuietTactic
import Derived.Deep.RegionLaw
namespace Go.Proofs.YtcdpcbdmnmipcaaDoor
open Go.RowKit
set_option linter.unusedSimpArgs false
set_option linter.unusedVariables false

set_option maxHeartbeats 400000 in
theorem needsHex_any (c : UInt8) (w : World) : Calls Tryd.prog 48 #[.int .u8 c.toNat] w fun e w' => e = .returned (.bool (hxB c)) ∧ w = w' := by
  by_cases h1 : (c.toNat : Int) < 32
  · go_enter Tryd.func48, Tryd.ntmps48
    go_wp2
    go_ret
    exact ⟨ret_bool (by simp [hxB]; omega), rfl⟩
  · go_enter Tryd.func48, Tryd.ntmps48
    go_wp2
    go_ret
    exact ⟨ret_bool (by simp [hxB]; omega), rfl⟩
set_option maxHeartbeats 400000 in
theorem needsBackslash_any (c : UInt8) (w : World) : Calls Tryd.prog 49 #[.int .u8 c.toNat] w fun e w' => e = .returned (.bool (bsB c)) ∧ w = w' := by
  by_cases h1 : c.toNat = 34
  · have h : ((c.toNat : Int) == 34) = true := by simp; omega
    have H1 := Lib.hid h1
    clear h1
    go_enter Tryd.func49, Tryd.ntmps49
    go_wp2
    go_ret
    exact ⟨ret_bool (by simp [bsB, H1.out]), rfl⟩
  · have h : ((c.toNat : Int) == 34) = false := by simp; omega
    have H1 := Lib.hid h1
    clear h1
    by_cases h2 : c.toNat = 92
    · have h' : ((c.toNat : Int) == 92) = true := by simp; omega
      have H2 := Lib.hid h2
      clear h2
      go_enter Tryd.func49, Tryd.ntmps49
      go_wp2
      go_ret
      exact ⟨ret_bool (by simp [bsB, H1.out, H2.out]), rfl⟩
    · have h' : ((c.toNat : Int) == 92) = false := by simp; omega
      have H2 := Lib.hid h2
      clear h2
      go_enter Tryd.func49, Tryd.ntmps49
      go_wp2
      go_ret
      exact ⟨ret_bool (by simp [bsB, H1.out, H2.out]), rfl⟩

theorem byteT : ByteT Tryd.prog 49 5 := ⟨Tryd.underlying49, Tryd.underlying5, by kernel_rfl⟩
def hexA : ByteArray := ⟨#[48, 49, 50, 51, 52, 53, 54, 55, 56, 57, 97, 98, 99, 100, 101, 102]⟩
theorem hexAtF : ∀ n : Fin 16, (hexA[n.val]'(n.isLt)) = hexd n.val := by decide +kernel
theorem hexAt (n : Nat) (h : n < 16) : (hexA[n]'h) = hexd n := hexAtF ⟨n, h⟩
theorem hexAt_eq (i n : Nat) (e : i = n) (h : i < (⟨#[48, 49, 50, 51, 52, 53, 54, 55, 56, 57, 97, 98, 99, 100, 101, 102]⟩ : ByteArray).size) :
    (⟨#[48, 49, 50, 51, 52, 53, 54, 55, 56, 57, 97, 98, 99, 100, 101, 102]⟩ : ByteArray)[i] = hexd n := by
  subst e; exact hexAt i h
theorem u8_div16 (c : UInt8) : IntKind.u8.wrap ((c.toNat : Int) / 16) = (c.toNat : Int) / 16 := by rw [IntKind.wrap_u8]; have := c.toNat_lt; omega
theorem u8_mod16 (c : UInt8) : ((c.toNat : Int)).tmod 16 = (c.toNat : Int) % 16 := Int.tmod_eq_emod_of_nonneg (by omega)
theorem hex_lo : ∀ n : Nat, n < 256 → bits .and .u8 (n : Int) 15 = (n : Int) % 16 := by decide +kernel

set_option maxRecDepth 100000 in
set_option maxHeartbeats 1000000 in
theorem quote_any (s : ByteArray) (w : World) (hs : s.size ≤ 40000) :
    Calls Tryd.prog 28 #[.string s] w fun e w' => e = .returned (.string ⟨(quoteL s.data.toList).toArray⟩) ∧ Below w.heap.size w w' := by
  obtain ⟨i0, hi, hz0, hz1, hz2⟩ := info_parts byteT.info
  have HI := Lib.hid hi
  have HZ0 := Lib.hid hz0
  have HZ1 := Lib.hid hz1
  have HZ2 := Lib.hid hz2
  clear hi hz0 hz1 hz2
  go_enter Tryd.func28, Tryd.ntmps28
  go_wp2_with (first
    | (at_make; refine wpList_make_own _ rfl _ _ 49 rfl w.heap.size 5 i0 (.int .u8 0) 1 Tryd.underlying49 HI.out HZ0.out HZ1.out _ _ _ (s.size + 2) rfl rfl (by omega) (by rw [HZ2.out]; omega) (by unfold maxLen; omega) (by simp) ?_; intro w1 hown hgrow; have hbuf := Buf.of_make (Below.refl _ _) (Nat.le_refl _) hown hgrow; clear hown hgrow)
    | (at_builtin; refine wpList_app byteT rfl _ _ rfl _ [] rfl (hbuf.alloc _) _ [34] 1 _ rfl rfl (by omega) rfl (heap_alloc_new _ _) (by simp) ?_; clear hbuf; intro v' w1 hbuf))
  have hl := flatMap_qb_le s.data.toList
  simp only [Array.length_toList, ByteArray.size_data] at hl
  simp only [List.nil_append] at hbuf
  go_loopw [3, 15] (fun v i wr => ∃ (k : Nat) (l : List UInt8), k ≤ s.size ∧ i = .int .i64 k ∧ Buf 5 w.heap.size w wr v l ∧ l ≠ [] ∧ Hid (quoteL s.data.toList = l ++ ((s.data.toList.drop k).flatMap qb ++ [34]))) (fun _ i _ => s.size - (intOf i).toNat)
  case atStart => exact ⟨0, [34], Nat.zero_le _, rfl, hbuf, by simp, Lib.hid rfl⟩
  case round =>
    obtain ⟨k, l, hk, rfl, hB, hne, HE⟩ := hrel
    have hl2 : l.length ≤ 200000 := by
      have e := congrArg List.length HE.out
      simp only [quoteL, List.length_cons, List.length_append, List.length_nil] at e
      omega
    by_cases hlt : k < s.size
    · have HS : Hid ((s.data.toList.drop k).flatMap qb = qb s[k] ++ (s.data.toList.drop (k + 1)).flatMap qb) := by
        have e : s.data.toList.drop k = s[k] :: s.data.toList.drop (k + 1) := by
          rw [List.drop_eq_getElem_cons (by simpa using hlt)]; rfl
        rw [e]; exact Lib.hid rfl
      cases hx : hxB s[k]
      · cases hb : bsB s[k]
        · have HQ : Hid (qb s[k] = [s[k]]) := by rw [qb, hx, hb]; exact Lib.hid rfl
          go_wp2_with (first
            | (go_at_call 48; refine (needsHex_any _ _).mono ?_; rintro e w' ⟨rfl, rfl⟩)
            | (go_at_call 49; refine (needsBackslash_any _ _).mono ?_; rintro e w' ⟨rfl, rfl⟩)
            | (at_builtin; refine wpList_app byteT rfl _ _ rfl _ l rfl (hB.alloc _) _ [s[k]] 1 _ rfl rfl (by omega) rfl (heap_alloc_new _ _) (by omega) ?_; intro v' w1 hbuf'))
          go_roundw
          case rel => exact ⟨k + 1, _, by omega, by go_num, hbuf', by simp, Lib.hid (by rw [HE.out, HS.out, HQ.out]; simp only [List.append_assoc])⟩
          case measure => simp [intOf]; omega
        · have HQ : Hid (qb s[k] = [92, s[k]]) := by rw [qb, hx, hb]; exact Lib.hid rfl
          go_wp2_with (first
            | (go_at_call 48; refine (needsHex_any _ _).mono ?_; rintro e w' ⟨rfl, rfl⟩)
            | (go_at_call 49; refine (needsBackslash_any _ _).mono ?_; rintro e w' ⟨rfl, rfl⟩)
            | (at_builtin; refine wpList_app byteT rfl _ _ rfl _ l rfl (hB.alloc _) _ [92, s[k]] 2 _ rfl rfl (by omega) rfl (heap_alloc_new _ _) (by omega) ?_; intro v' w1 hbuf'))
          go_roundw
          case rel => exact ⟨k + 1, _, by omega, by go_num, hbuf', by simp, Lib.hid (by rw [HE.out, HS.out, HQ.out]; simp only [List.append_assoc])⟩
          case measure => simp [intOf]; omega
      · have HQ : Hid (qb s[k] = [92, 120, hexd (s[k].toNat / 16), hexd (s[k].toNat % 16)]) := by rw [qb, hx]; exact Lib.hid rfl
        go_wp2_with (first
            | (go_at_call 48; refine (needsHex_any _ _).mono ?_; rintro e w' ⟨rfl, rfl⟩)
            | (go_at_call 49; refine (needsBackslash_any _ _).mono ?_; rintro e w' ⟨rfl, rfl⟩))
        have hlo := Lib.hid (hex_lo s[k].toNat s[k].toNat_lt)
        have b1 : (0 : Int) ≤ (s[k].toNat : Int) / 16 := by omega
        have b2 : (s[k].toNat : Int) / 16 < 16 := by have := s[k].toNat_lt; omega
        have b3 : (0 : Int) ≤ (s[k].toNat : Int) % 16 := by omega
        have b4 : (s[k].toNat : Int) % 16 < 16 := by omega
        have hlo' := hlo.out
        have e1 := hexAt_eq ((s[k].toNat : Int) / 16).toNat (s[k].toNat / 16) (by omega)
        have e2 := hexAt_eq ((s[k].toNat : Int) % 16).toNat (s[k].toNat % 16) (by omega)
        go_region_law ((refine step_app byteT rfl _ _ rfl _ l rfl ((hB.alloc _).drew) _ [92, 120, hexd (s[k].toNat / 16), hexd (s[k].toNat % 16)] 4 _ rfl rfl (by omega) rfl (heap_alloc_new _ _) (by omega) ?_; intro v' w1 hbuf'))
        all_goals go_wp2
        all_goals
          go_roundw
          case rel => exact ⟨k + 1, _, by omega, by go_num, hbuf', by simp, Lib.hid (by rw [HE.out, HS.out, HQ.out]; simp only [List.append_assoc])⟩
          case measure => simp [intOf]; omega
    · have HD : Hid (s.data.toList.drop k = []) := Lib.hid (List.drop_eq_nil_of_le (by simpa using hlt))
      go_wp2_with (at_builtin; refine wpList_app byteT rfl _ _ rfl _ l rfl (hB.alloc _) _ [34] 1 _ rfl rfl (by omega) rfl (heap_alloc_new _ _) (by omega) ?_; intro v' w1 hbuf'; obtain ⟨L, hL⟩ : ∃ L, L = l ++ [34] := ⟨_, rfl⟩; rw [← hL] at hbuf'; have hLn : L ≠ [] := (by rw [hL]; simp); have HL := Lib.hid hL; clear hL; obtain ⟨g, cap, rfl, _, _⟩ := hbuf'.form hLn; have hconv := run_convert_bytes_back (P := Tryd.prog) w1 49 9 5 ⟨g, 0, none⟩ cap L byteT.ht byteT.he Tryd.underlying9 hbuf'.cells)
      go_ret
      refine ⟨ret_str ?_, hbuf'.bel⟩
      rw [HL.out, HE.out, HD.out]; rfl

set_option maxRecDepth 100000 in
set_option maxHeartbeats 1000000 in
theorem rquote_any (s : ByteArray) (w : World) (hs : s.size ≤ 40000) :
    Calls Tryd.prog 29 #[.string s] w fun e w' => e = .returned (.string ⟨(quoteL s.data.toList).toArray⟩) ∧ Below w.heap.size w w' := by
  go_enter Tryd.func29, Tryd.ntmps29
  go_wp2
  have hl := flatMap_qb_le s.data.toList
  simp only [Array.length_toList, ByteArray.size_data] at hl
  have hbuf : Buf 5 w.heap.size w (w.alloc (.cells #[.int .u8 34] 5)) (.slice (some ⟨w.heap.size, 0, none⟩) 1 1) [34] := Buf.new (Below.refl _ _) (Nat.le_refl _) [34] rfl rfl (by simp)
  go_loopw [3, 4] (fun v i wr => ∃ (k : Nat) (l : List UInt8), k ≤ s.size ∧ i = .int .i64 k ∧ Buf 5 w.heap.size w wr v l ∧ l ≠ [] ∧ Hid (quoteL s.data.toList = l ++ ((s.data.toList.drop k).flatMap qb ++ [34]))) (fun _ i _ => s.size - (intOf i).toNat)
  case atStart => exact ⟨0, [34], Nat.zero_le _, rfl, hbuf, by simp, Lib.hid rfl⟩
  case round =>
    obtain ⟨k, l, hk, rfl, hB, hne, HE⟩ := hrel
    have hl2 : l.length ≤ 200000 := by
      have e := congrArg List.length HE.out
      simp only [quoteL, List.length_cons, List.length_append, List.length_nil] at e
      omega
    by_cases hlt : k < s.size
    · have HS : Hid ((s.data.toList.drop k).flatMap qb = qb s[k] ++ (s.data.toList.drop (k + 1)).flatMap qb) := by
        have e : s.data.toList.drop k = s[k] :: s.data.toList.drop (k + 1) := by
          rw [List.drop_eq_getElem_cons (by simpa using hlt)]; rfl
        rw [e]; exact Lib.hid rfl
      cases hx : hxB s[k]
      · have h1 : ¬ (s[k].toNat : Int) < 32 := by simp [hxB] at hx; omega
        have h2 : ¬ 126 < (s[k].toNat : Int) := by simp [hxB] at hx; omega
        cases hb : bsB s[k]
        · have HQ : Hid (qb s[k] = [s[k]]) := by rw [qb, hx, hb]; exact Lib.hid rfl
          have h3 : ((s[k].toNat : Int) == 34) = false := by simp [bsB] at hb; simp; omega
          have h4 : ((s[k].toNat : Int) == 92) = false := by simp [bsB] at hb; simp; omega
          go_wp2_with (at_builtin; refine wpList_app byteT rfl _ _ rfl _ l rfl (hB.alloc _) _ [s[k]] 1 _ rfl rfl (by omega) rfl (heap_alloc_new _ _) (by omega) ?_; intro v' w1 hbuf')
          go_roundw
          case rel => exact ⟨k + 1, _, by omega, by go_num, hbuf', by simp, Lib.hid (by rw [HE.out, HS.out, HQ.out]; simp only [List.append_assoc])⟩
          case measure => simp [intOf]; omega
        · have HQ : Hid (qb s[k] = [92] ++ [s[k]]) := by rw [qb, hx, hb]; exact Lib.hid rfl
          by_cases h34 : s[k].toNat = 34
          · have h3 : ((s[k].toNat : Int) == 34) = true := by simp; omega
            clear h34
            go_wp2_with (first
              | (at_builtin; refine wpList_app byteT rfl (.tmp 37) _ rfl _ l rfl (hB.alloc _) _ [92] 1 _ rfl rfl (by omega) rfl (heap_alloc_new _ _) (by omega) ?_; intro v1 w1 hbuf1)
              | (at_builtin; refine wpList_app byteT rfl (.tmp 40) _ rfl _ _ rfl (hbuf1.alloc _) _ [s[k]] 1 _ rfl rfl (by omega) rfl (heap_alloc_new _ _) (by simp; omega) ?_; intro v' w1 hbuf'))
            go_roundw
            case rel => exact ⟨k + 1, _, by omega, by go_num, hbuf', by simp, Lib.hid (by rw [HE.out, HS.out, HQ.out]; simp only [List.append_assoc])⟩
            case measure => simp [intOf]; omega
          · have h3 : ((s[k].toNat : Int) == 34) = false := by simp; omega
            have h4 : ((s[k].toNat : Int) == 92) = true := by simp [bsB] at hb; simp; omega
            clear h34
            go_wp2_with (first
              | (at_builtin; refine wpList_app byteT rfl (.tmp 37) _ rfl _ l rfl (hB.alloc _) _ [92] 1 _ rfl rfl (by omega) rfl (heap_alloc_new _ _) (by omega) ?_; intro v1 w1 hbuf1)
              | (at_builtin; refine wpList_app byteT rfl (.tmp 40) _ rfl _ _ rfl (hbuf1.alloc _) _ [s[k]] 1 _ rfl rfl (by omega) rfl (heap_alloc_new _ _) (by simp; omega) ?_; intro v' w1 hbuf'))
            go_roundw
            case rel => exact ⟨k + 1, _, by omega, by go_num, hbuf', by simp, Lib.hid (by rw [HE.out, HS.out, HQ.out]; simp only [List.append_assoc])⟩
            case measure => simp [intOf]; omega
      · have HQ : Hid (qb s[k] = [92, 120, hexd (s[k].toNat / 16), hexd (s[k].toNat % 16)]) := by rw [qb, hx]; exact Lib.hid rfl
        have b1 : (0 : Int) ≤ (s[k].toNat : Int) / 16 := by omega
        have b2 : (s[k].toNat : Int) / 16 < 16 := by have := s[k].toNat_lt; omega
        have b3 : (0 : Int) ≤ (s[k].toNat : Int) % 16 := by omega
        have b4 : (s[k].toNat : Int) % 16 < 16 := by omega
        have e1 := hexAt_eq ((s[k].toNat : Int) / 16).toNat (s[k].toNat / 16) (by omega)
        have e2 := hexAt_eq ((s[k].toNat : Int) % 16).toNat (s[k].toNat % 16) (by omega)
        have w1 := u8_div16 s[k]
        have w2 := u8_mod16 s[k]
        by_cases h1 : (s[k].toNat : Int) < 32
        · go_wp2_with fail
          go_region_law ((refine step_app byteT rfl _ _ rfl _ l rfl ((hB.alloc _).drew) _ [92, 120, hexd (s[k].toNat / 16), hexd (s[k].toNat % 16)] 4 _ rfl rfl (by omega) rfl (heap_alloc_new _ _) (by omega) ?_; intro v' w1 hbuf'))
          all_goals go_wp2
          all_goals
            go_roundw
            case rel => exact ⟨k + 1, _, by omega, by go_num, hbuf', by simp, Lib.hid (by rw [HE.out, HS.out, HQ.out]; simp only [List.append_assoc])⟩
            case measure => simp [intOf]; omega
        · have h2 : 126 < (s[k].toNat : Int) := by simp [hxB] at hx; omega
          go_wp2_with fail
          go_region_law ((refine step_app byteT rfl _ _ rfl _ l rfl ((hB.alloc _).drew) _ [92, 120, hexd (s[k].toNat / 16), hexd (s[k].toNat % 16)] 4 _ rfl rfl (by omega) rfl (heap_alloc_new _ _) (by omega) ?_; intro v' w1 hbuf'))
          all_goals go_wp2
          all_goals
            go_roundw
            case rel => exact ⟨k + 1, _, by omega, by go_num, hbuf', by simp, Lib.hid (by rw [HE.out, HS.out, HQ.out]; simp only [List.append_assoc])⟩
            case measure => simp [intOf]; omega
    · have HD : Hid (s.data.toList.drop k = []) := Lib.hid (List.drop_eq_nil_of_le (by simpa using hlt))
      go_wp2_with (at_builtin; refine wpList_app byteT rfl _ _ rfl _ l rfl (hB.alloc _) _ [34] 1 _ rfl rfl (by omega) rfl (heap_alloc_new _ _) (by omega) ?_; intro v' w1 hbuf'; have hconv := hbuf'.text byteT Tryd.underlying9)
      go_ret
      refine ⟨ret_str ?_, hbuf'.bel⟩
      rw [HE.out, HD.out]; rfl
end Go.Proofs.YtcdpcbdmnmipcaaDoor
