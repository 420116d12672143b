/- Walks of Unquote, of its reference, and of their parts. -/
import Derived.Test.YtcdpcbdmnmipcaaDoorTextB
import Derived.Test.YtcdpcbdmnmipcaaDoorShelf
namespace Go.Proofs.YtcdpcbdmnmipcaaDoor
open Go.RowKit
set_option linter.unusedSimpArgs false
set_option linter.unusedVariables false

/-! ### the code's hexByte and quotedByte -/
theorem index_hexD_all : ∀ n : Fin 256, Lib.indexByte hexD (UInt8.ofNat n.val) = hexV (UInt8.ofNat n.val) := by decide +kernel
theorem index_hexD (c : UInt8) : Lib.indexByte hexD c = hexV c := by
  have := index_hexD_all ⟨c.toNat, c.toNat_lt⟩
  simpa using this
theorem indexByte_hex (c : UInt8) (w : World) :
    Calls Tryd.prog 72 #[.string ⟨#[48, 49, 50, 51, 52, 53, 54, 55, 56, 57, 97, 98, 99, 100, 101, 102]⟩, .int .u8 c.toNat] w fun e w' => e = .returned (.int .i64 (hexV c)) ∧ w = w' := by
  refine (Tryd.strings_IndexByte ⟨#[48, 49, 50, 51, 52, 53, 54, 55, 56, 57, 97, 98, 99, 100, 101, 102]⟩ c.toNat w).mono ?_
  rintro e w' ⟨rfl, rfl⟩
  refine ⟨ret_int ?_, rfl⟩
  have e : ((c.toNat : Int).toNat).toUInt8 = c := by simp
  rw [e]
  exact index_hexD c
theorem or16_all : ∀ a b : Fin 16, bits .or .i64 ((a.val : Int) * 16) (b.val : Int) = 16 * (a.val : Int) + b.val := by decide +kernel
theorem or16 (a b : UInt8) (ha : 0 ≤ hexV a) (hb : 0 ≤ hexV b) : bits .or .i64 (hexV a * 16) (hexV b) = ((hexB a b).toNat : Int) := by
  have h1 := hexV_lt a
  have h2 := hexV_lt b
  have h := or16_all ⟨(hexV a).toNat, by omega⟩ ⟨(hexV b).toNat, by omega⟩
  simp only [Int.toNat_of_nonneg ha, Int.toNat_of_nonneg hb] at h
  rw [h, hexB_toNat a b ha hb]
  omega
theorem hxB_eq (c : UInt8) : (hxB c = true) = ((c.toNat : Int) < 32 ∨ 126 < (c.toNat : Int)) := by simp [hxB]

set_option maxRecDepth 100000 in
set_option maxHeartbeats 1000000 in
theorem hexByte_any (a b : UInt8) (w : World) :
    Calls Tryd.prog 61 #[.int .u8 a.toNat, .int .u8 b.toNat] w fun e w' => e = .returned (.tuple #[.int .u8 (hb2 a b).1.toNat, .int .i64 (hb2 a b).2]) ∧ w = w' := by
  have a1 := hexV_lt a
  have a2 := hexV_ge a
  have b1 := hexV_lt b
  have b2 := hexV_ge b
  by_cases ha : hexV a < 0
  · have HE : Hid (hb2 a b = (0, 0)) := Lib.hid (by rw [hb2, if_pos (.inl ha)])
    go_enter Tryd.func61, Tryd.ntmps61
    go_wp2_with (go_at_call 72; refine (indexByte_hex _ _).mono ?_; rintro e w' ⟨rfl, rfl⟩)
    go_ret2
    exact ⟨by rw [HE.out]; rfl, rfl⟩
  by_cases hb : hexV b < 0
  · have HE : Hid (hb2 a b = (0, 0)) := Lib.hid (by rw [hb2, if_pos (.inr hb)])
    go_enter Tryd.func61, Tryd.ntmps61
    go_wp2_with (go_at_call 72; refine (indexByte_hex _ _).mono ?_; rintro e w' ⟨rfl, rfl⟩)
    go_ret2
    exact ⟨by rw [HE.out]; rfl, rfl⟩
  have HO := Lib.hid (or16 a b (by omega) (by omega))
  have h255 : ((hexB a b).toNat : Int) < 256 := by have := (hexB a b).toNat_lt; omega
  have hor := HO.out
  have hmod : ((hexB a b).toNat : Int) % 256 = ((hexB a b).toNat : Int) := by omega
  cases hx : hxB (hexB a b)
  · have HE : Hid (hb2 a b = (0, 0)) := Lib.hid (by rw [hb2, if_neg (by omega), hx]; rfl)
    go_enter Tryd.func61, Tryd.ntmps61
    go_wp2_with (first
      | (go_at_call 72; refine (indexByte_hex _ _).mono ?_; rintro e w' ⟨rfl, rfl⟩)
      | (go_at_call 48; refine (needsHex_any _ _).mono ?_; rintro e w' ⟨rfl, rfl⟩))
    go_ret2
    exact ⟨by rw [HE.out]; rfl, rfl⟩
  · have HE : Hid (hb2 a b = (hexB a b, 4)) := Lib.hid (by rw [hb2, if_neg (by omega), hx]; rfl)
    go_enter Tryd.func61, Tryd.ntmps61
    go_wp2_with (first
      | (go_at_call 72; refine (indexByte_hex _ _).mono ?_; rintro e w' ⟨rfl, rfl⟩)
      | (go_at_call 48; refine (needsHex_any _ _).mono ?_; rintro e w' ⟨rfl, rfl⟩))
    go_ret2
    exact ⟨by rw [HE.out]; rfl, rfl⟩

set_option maxRecDepth 100000 in
set_option maxHeartbeats 2000000 in
theorem quotedByte_any (s : ByteArray) (w : World) (h0 : 0 < s.size) (hs : s.size ≤ maxLen) :
    Calls Tryd.prog 46 #[.string s] w fun e w' => e = .returned (.tuple #[.int .u8 (dq s.data.toList).1.toNat, .int .i64 (dq s.data.toList).2]) ∧ ∃ n, w' = w.drewN n := by
  unfold maxLen at hs
  have hl1 := bytes_cons1 s h0
  by_cases hc : s[0].toNat = 92
  · have c1 : ((s[0].toNat : Int) != 92) = false := by simp; omega
    by_cases h2 : 1 < s.size
    · have hl2 := bytes_drop s 1 h2
      cases hb : bsB s[1]
      · by_cases hd : s[1].toNat = 120
        · have d1 : ((s[1].toNat : Int) == 120) = true := by simp; omega
          by_cases h4 : 3 < s.size
          · have hl3 := bytes_drop s 2 (by omega)
            have hl4 := bytes_drop s 3 h4
            have HE : Hid (dq s.data.toList = hb2 s[2] s[3]) := by
              rw [hl1, hl2, hl3, hl4]; exact Lib.hid (dq_hex _ _ _ _ _ hc hd)
            clear hl1 hl2 hl3 hl4 hc hd
            have i2 : (2 : Int) < (s.size : Int) := by omega
            have i3 : (3 : Int) < (s.size : Int) := by omega
            go_enter Tryd.func46, Tryd.ntmps46
            go_wp2_with (go_at_call 49; refine (needsBackslash_any _ _).mono ?_; rintro e w' ⟨rfl, rfl⟩)
            go_quiet ((go_at_call 61; exact Calls.quiet_of_same ((hexByte_any _ _ _).mono fun _ _ h => ⟨h.1, h.2.symm⟩)))
            go_wp2
            go_ret2
            exact ⟨by rw [HE.out]; rfl, _, rfl⟩
          · have HE : Hid (dq s.data.toList = (0, 0)) := by
              rw [hl1, hl2]; exact Lib.hid (dq_short _ _ _ hc hd (by rw [bytes_len]; omega))
            clear hl1 hl2 hc hd
            go_enter Tryd.func46, Tryd.ntmps46
            go_wp2_with (go_at_call 49; refine (needsBackslash_any _ _).mono ?_; rintro e w' ⟨rfl, rfl⟩)
            go_ret2
            exact ⟨by rw [HE.out]; rfl, 0, rfl⟩
        · have d1 : ((s[1].toNat : Int) == 120) = false := by simp; omega
          have HE : Hid (dq s.data.toList = (0, 0)) := by
            rw [hl1, hl2]; exact Lib.hid (dq_esc _ _ _ hc hb hd)
          clear hl1 hl2 hc hd
          by_cases h4 : 4 ≤ (s.size : Int)
          · go_enter Tryd.func46, Tryd.ntmps46
            go_wp2_with (go_at_call 49; refine (needsBackslash_any _ _).mono ?_; rintro e w' ⟨rfl, rfl⟩)
            go_ret2
            exact ⟨by rw [HE.out]; rfl, 0, rfl⟩
          · go_enter Tryd.func46, Tryd.ntmps46
            go_wp2_with (go_at_call 49; refine (needsBackslash_any _ _).mono ?_; rintro e w' ⟨rfl, rfl⟩)
            go_ret2
            exact ⟨by rw [HE.out]; rfl, 0, rfl⟩
      · have HE : Hid (dq s.data.toList = (s[1], 2)) := by
          rw [hl1, hl2]; exact Lib.hid (dq_two _ _ _ hc hb)
        clear hl1 hl2 hc
        go_enter Tryd.func46, Tryd.ntmps46
        go_wp2_with (go_at_call 49; refine (needsBackslash_any _ _).mono ?_; rintro e w' ⟨rfl, rfl⟩)
        go_ret2
        exact ⟨by rw [HE.out]; rfl, 0, rfl⟩
    · have HE : Hid (dq s.data.toList = (0, 0)) := by
        have : s.data.toList.drop 1 = [] := List.drop_eq_nil_of_le (by simp; omega)
        rw [hl1, this]; exact Lib.hid (dq_end _ hc)
      clear hl1 hc
      go_enter Tryd.func46, Tryd.ntmps46
      go_wp2_with (go_at_call 49; refine (needsBackslash_any _ _).mono ?_; rintro e w' ⟨rfl, rfl⟩)
      go_ret2
      exact ⟨by rw [HE.out]; rfl, 0, rfl⟩
  · have c1 : ((s[0].toNat : Int) != 92) = true := by simp; omega
    cases hx : hxB s[0]
    · cases hb : bsB s[0]
      · have HE : Hid (dq s.data.toList = (s[0], 1)) := by
          rw [hl1]; exact Lib.hid (dq_one _ _ hc hx hb)
        clear hl1 hc
        go_enter Tryd.func46, Tryd.ntmps46
        go_wp2_with (first
          | (go_at_call 49; refine (needsBackslash_any _ _).mono ?_; rintro e w' ⟨rfl, rfl⟩)
          | (go_at_call 48; refine (needsHex_any _ _).mono ?_; rintro e w' ⟨rfl, rfl⟩))
        go_ret2
        exact ⟨by rw [HE.out]; rfl, 0, rfl⟩
      · have HE : Hid (dq s.data.toList = (0, 0)) := by
          rw [hl1]; exact Lib.hid (dq_bad _ _ hc (.inr hb))
        clear hl1 hc
        go_enter Tryd.func46, Tryd.ntmps46
        go_wp2_with (first
          | (go_at_call 49; refine (needsBackslash_any _ _).mono ?_; rintro e w' ⟨rfl, rfl⟩)
          | (go_at_call 48; refine (needsHex_any _ _).mono ?_; rintro e w' ⟨rfl, rfl⟩))
        go_ret2
        exact ⟨by rw [HE.out]; rfl, 0, rfl⟩
    · have HE : Hid (dq s.data.toList = (0, 0)) := by
        rw [hl1]; exact Lib.hid (dq_bad _ _ hc (.inl hx))
      clear hl1 hc
      go_enter Tryd.func46, Tryd.ntmps46
      go_wp2_with (first
        | (go_at_call 49; refine (needsBackslash_any _ _).mono ?_; rintro e w' ⟨rfl, rfl⟩)
        | (go_at_call 48; refine (needsHex_any _ _).mono ?_; rintro e w' ⟨rfl, rfl⟩))
      go_ret2
      exact ⟨by rw [HE.out]; rfl, 0, rfl⟩
theorem quotedByte_eq (s : ByteArray) (c : UInt8) (n : Nat) (w : World) (h0 : 0 < s.size) (hs : s.size ≤ maxLen) (h : dq s.data.toList = (c, n)) :
    Calls Tryd.prog 46 #[.string s] w fun e w' => e = .returned (.tuple #[.int .u8 c.toNat, .int .i64 n]) ∧ ∃ n, w' = w.drewN n := by
  have := quotedByte_any s w h0 hs
  rw [h] at this
  exact this

/-- what Unquote says of a text: what it is the quoted form of, or that it is none -/
def UnqPost (s : ByteArray) (e : Ending) : Prop :=
  (∃ t, s.data.toList = quoteL t ∧ e = .returned (.tuple #[.string ⟨t.toArray⟩, .int .i64 0])) ∨
  ((∀ t, s.data.toList ≠ quoteL t) ∧ e = .returned (.tuple #[.string ⟨#[]⟩, .int .i64 3]))
def lenOf : Value → Nat
  | .string r => r.size
  | _ => 0

set_option maxRecDepth 100000 in
set_option maxHeartbeats 2000000 in
theorem unquote_any (s : ByteArray) (w : World) (hs : s.size ≤ 40000) :
    Calls Tryd.prog 26 #[.string s] w fun e w' => UnqPost s e ∧ Below w.heap.size w w' := by
  obtain ⟨i0, hi, hz0, hz1, hz2⟩ := info_parts byteT.info
  have HI := Lib.hid hi
  have HZ0 := Lib.hid hz0
  have HZ1 := Lib.hid hz1
  have HZ2 := Lib.hid hz2
  clear hi hz0 hz1 hz2
  by_cases h2 : (s.size : Int) < 2
  · have HP : Hid (∀ t, s.data.toList ≠ quoteL t) := Lib.hid fun t ht => by obtain ⟨h, _⟩ := quoted_ends ht; omega
    go_enter Tryd.func26, Tryd.ntmps26
    go_wp2
    go_ret2
    exact ⟨.inr ⟨HP.out, rfl⟩, Below.refl _ _⟩
  have h2' : 2 ≤ s.size := by omega
  by_cases hf : s[0].toNat = 34
  case neg =>
    have HP : Hid (∀ t, s.data.toList ≠ quoteL t) := Lib.hid fun t ht => by obtain ⟨h, h0, _⟩ := quoted_ends ht; exact hf h0
    have hf' : ((s[0].toNat : Int) != 34) = true := by simp; omega
    clear hf
    go_enter Tryd.func26, Tryd.ntmps26
    go_wp2
    go_ret2
    exact ⟨.inr ⟨HP.out, rfl⟩, Below.refl _ _⟩
  have hf' : ((s[0].toNat : Int) != 34) = false := by simp; omega
  by_cases hl : s[s.size - 1].toNat = 34
  case neg =>
    have HP : Hid (∀ t, s.data.toList ≠ quoteL t) := Lib.hid fun t ht => by obtain ⟨h, _, h0⟩ := quoted_ends ht; exact hl h0
    have hl' : ((s[s.size - 1].toNat : Int) != 34) = true := by simp; omega
    clear hf hl
    go_enter Tryd.func26, Tryd.ntmps26
    go_wp2
    go_ret2
    exact ⟨.inr ⟨HP.out, rfl⟩, Below.refl _ _⟩
  have hl' : ((s[s.size - 1].toNat : Int) != 34) = false := by simp; omega
  have HIN := Lib.hid (inside_list s h2' hf hl)
  clear hf hl
  go_enter Tryd.func26, Tryd.ntmps26
  go_wp2_with (at_make; refine wpList_make_own _ rfl _ _ 49 rfl w.heap.size 5 i0 (.int .u8 0) 1 Tryd.underlying49 HI.out HZ0.out HZ1.out _ _ _ (s.size - 1 - 1) rfl rfl rfl (by rw [HZ2.out]; omega) (by unfold maxLen; omega) (by simp) ?_; intro w1 hown hgrow; have hbuf := Buf.of_make (Below.refl _ _) (Nat.le_refl _) hown hgrow; clear hown hgrow)
  go_loopw [4, 5] (fun q v wr => ∃ (r : ByteArray) (l : List UInt8), q = .string r ∧ r.size ≤ 40000 ∧ Buf 5 w.heap.size w wr v l ∧ Hid (s.data.toList = 34 :: (l.flatMap qb ++ (r.data.toList ++ [34])))) (fun q _ _ => lenOf q)
  case atStart => exact ⟨s.extract 1 (s.size - 1), [], rfl, by simp [ByteArray.size_extract]; omega, hbuf, Lib.hid HIN.out⟩
  case round =>
    obtain ⟨r, l, rfl, hr, hB, HE⟩ := hrel
    have hl2 : l.length ≤ 40000 := by
      have e := congrArg List.length HE.out
      have e1 := flatMap_qb_ge l
      have e2 : s.data.toList.length = s.size := by simp
      simp only [List.length_cons, List.length_append, List.length_nil] at e
      omega
    by_cases h0 : 0 < r.size
    · have hrn : r.data.toList ≠ [] := by
        intro e
        have e := congrArg List.length e
        simp only [Array.length_toList, ByteArray.size_data, List.length_nil] at e
        omega
      have t1 := isEmpty_no r h0
      obtain ⟨c, n, hcn⟩ : ∃ c n, dq r.data.toList = (c, n) := ⟨_, _, rfl⟩
      have HD := Lib.hid hcn
      by_cases hn : n = 0
      · have HP : Hid (∀ t, s.data.toList ≠ quoteL t) := Lib.hid (unq_none HE.out hrn (by rw [hcn]; exact hn))
        have hn0 : ((n : Int) == 0) = true := by simp; omega
        clear hcn hrn hn
        go_wp2_with (go_at_call 46; refine (quotedByte_eq _ c n _ h0 (by unfold maxLen; omega) HD.out).mono ?_; rintro e w2 ⟨rfl, hq⟩)
        go_ret2
        exact ⟨.inr ⟨HP.out, rfl⟩, hB.bel.trans ((below_self hq).mono hB.base)⟩
      · have HST := Lib.hid (unq_step HE.out hcn hn)
        have hn0 : ((n : Int) == 0) = false := by simp; omega
        have hnr : n ≤ r.size := by have := HST.out.2; simpa using this
        have hnp : 0 < n := by omega
        clear hcn hrn hn
        go_wp2_with (first
          | (go_at_call 46; refine (quotedByte_eq _ c n _ h0 (by unfold maxLen; omega) HD.out).mono ?_; rintro e w2 ⟨rfl, hq⟩; have hB2 := hB.more (below_self hq); clear hq hB)
          | (at_builtin; refine wpList_app byteT rfl _ _ rfl _ l rfl (hB2.alloc _) _ [c] 1 _ rfl rfl (by omega) rfl (heap_alloc_new _ _) (by omega) ?_; intro v' w3 hbuf'))
        go_roundw
        case rel =>
          refine ⟨r.extract n r.size, l ++ [c], rfl, by simp [ByteArray.size_extract]; omega, hbuf', Lib.hid ?_⟩
          rw [HST.out.1, extract_list, List.take_of_length_le (by simp)]
        case measure => simp [lenOf, ByteArray.size_extract]; omega
    · have t1 := isEmpty_yes r (by omega)
      have HR : Hid (r.data.toList = []) := Lib.hid (List.eq_nil_of_length_eq_zero (by simp only [Array.length_toList, ByteArray.size_data]; omega))
      have hconv := hB.text byteT Tryd.underlying9
      go_wp2
      go_ret2
      refine ⟨.inl ⟨l, ?_, rfl⟩, hB.bel⟩
      rw [HE.out, HR.out]
      rfl
end Go.Proofs.YtcdpcbdmnmipcaaDoor
