/- The walks of the laws on lines. -/
import Derived.Test.YtcdpcbdmnmipcaaDoorLawsA
namespace Go.Proofs.YtcdpcbdmnmipcaaDoor
open Go.RowKit
set_option linter.unusedSimpArgs false
set_option linter.unusedVariables false

theorem encW_ge (x : List UInt8) : x.length ≤ (encW x).length := by
  unfold encW
  split
  · omega
  · have := quoteL_ge x; omega
theorem join_bounds (l : List (List UInt8)) : l.length ≤ (joinL l).length + 1 ∧ (l.map List.length).sum ≤ (joinL l).length := by
  have h2 : ∀ r : List (List UInt8), r.length + (r.map List.length).sum ≤ (r.flatMap fun x => 32 :: encW x).length := by
    intro r
    induction r with
    | nil => simp
    | cons x r ih =>
      have := encW_ge x
      simp only [List.flatMap_cons, List.length_append, List.length_cons, List.map_cons, List.sum_cons]
      omega
  cases l with
  | nil => simp
  | cons x r =>
    have h3 := h2 r
    have := encW_ge x
    rw [join_rest, List.length_append]
    simp only [List.map_cons, List.sum_cons, List.length_cons]
    omega
/-- a list of texts that came in, and is not long -/
theorem long_no (ss : List ByteArray) (n : Int) (h : longB ss n = false) : (ss.length : Int) ≤ n ∧ (sumL ss : Int) ≤ n := by
  simp [longB] at h; omega

/-- Words, whichever way it ends -/
theorem words_some (s : ByteArray) (hs : s.size ≤ 1000) : ∃ (L : List (List UInt8)) (x : Int), L.length ≤ 2000 ∧ (x = 0 ∧ s.data.toList = joinL L ∨ x = 3) ∧
    (∀ w, Calls Tryd.prog 31 #[.string s] w fun e w' => (∃ v ss, e = .returned (.tuple #[v, .int .i64 x]) ∧ StrL w' v ss ∧ bytesOf ss = L) ∧ Below w.heap.size w w') ∧
    (∀ w, Calls Tryd.prog 32 #[.string s] w fun e w' => (∃ v ss, e = .returned (.tuple #[v, .int .i64 x]) ∧ StrL w' v ss ∧ bytesOf ss = L) ∧ Below w.heap.size w w') := by
  by_cases h : ∃ l, s.data.toList = joinL l
  · obtain ⟨l, hl⟩ := h
    have hb := (join_bounds l).1
    have hz : (joinL l).length = s.size := by rw [← hl]; simp
    exact ⟨l, 0, by omega, .inl ⟨rfl, hl⟩, fun w => words_yes s l w (by omega) hl, fun w => rwords_yes s l w hs hl⟩
  · have hn : ∀ w, StrL w (.slice none 0 0) [] := fun w => ⟨none, 0, rfl, .inl rfl⟩
    refine ⟨[], 3, by simp, .inr rfl, fun w => (words_no s w (by omega) fun l hl => h ⟨l, hl⟩).mono ?_, fun w => (rwords_no s w hs fun l hl => h ⟨l, hl⟩).mono ?_⟩
    · rintro e w' ⟨rfl, hb⟩
      exact ⟨⟨_, [], rfl, hn _, rfl⟩, hb⟩
    · rintro e w' ⟨rfl, hb⟩
      exact ⟨⟨_, [], rfl, hn _, rfl⟩, hb⟩
theorem same_true (va vb : Value) (sa sb : List ByteArray) (w : World) (hva : StrL w va sa) (hvb : StrL w vb sb) (h : bytesOf sa = bytesOf sb) (hn : (bytesOf sa).length ≤ 2000) :
    Calls Tryd.prog 33 #[va, vb] w fun e w' => e = .returned (.bool true) ∧ ∃ n, w' = w.drewN n := by
  have h1 := bytesOf_len sa
  have h2 := bytesOf_len sb
  have := same_any va vb sa sb w hva hvb (by omega) (by rw [← h2, ← h]; exact hn)
  rw [show sameB sa sb = true from by simp [sameB, h]] at this
  exact this

set_option maxRecDepth 100000 in
set_option maxHeartbeats 2000000 in
theorem textLines_walk (s : ByteArray) (A : Option Addr) (c : Nat) (ss : List ByteArray) (w : World) (hs : s.size ≤ maxLen) (hv : StrL w (.slice A ss.length c) ss) (hbig : ss.length ≤ 140737488355328) (hsz : ∀ s ∈ ss, s.size ≤ 140737488355328) (hE : Env w) :
    Calls Tryd.prog 6 #[.string s, .slice A ss.length c] w fun e w' => e = .returned (.bool true) ∧ Below w.heap.size w w' := by
  have HL := Lib.hid (long_any _ ss 400 w hv hbig hsz (by omega) (by omega))
  clear hbig hsz
  by_cases h : 400 < (s.size : Int)
  · have HS := Lib.hid hs
    clear hs
    go_enter Tryd.func6, Tryd.ntmps6
    go_wp2_with (go_at_call 9; refine (awake_any _ hE).mono ?_; rintro e w1 ⟨rfl, hb⟩)
    go_ret
    exact ⟨rfl, hb⟩
  cases hl : longB ss 400
  · have hl1 := long_no ss 400 hl
    rw [hl] at HL
    obtain ⟨L, x, hLl, _, h1, h2⟩ := words_some s (by omega)
    have H1 := Lib.hid h1
    have H2 := Lib.hid h2
    have hn : ss.length ≤ 2000 := by omega
    have hsu : ((bytesOf ss).map List.length).sum ≤ 2000 := by unfold sumL at hl1; omega
    have HSU := Lib.hid (And.intro hn hsu)
    have HLL := Lib.hid hLl
    clear h1 h2 hl1 hl hn hsu hLl
    go_enter Tryd.func6, Tryd.ntmps6
    go_wp2_with (first
      | (go_at_call 30; refine HL.out.mono ?_; rintro e w' ⟨rfl, rfl⟩)
      | (go_at_call 31; refine (H1.out _).mono ?_; rintro e w1 ⟨⟨v1, s1, rfl, hv1, hb1⟩, hB1⟩; have HB1 := Lib.hid hb1; clear hb1)
      | (go_at_call 32; refine (H2.out _).mono ?_; rintro e w2 ⟨⟨v2, s2, rfl, hv2, hb2⟩, hB2'⟩; have HB2 := Lib.hid hb2; clear hb2; have hB2 := hB1.trans (hB2'.mono hB1.size); have hv12 := hv1.more hB2')
      | (go_at_call 33; refine (same_true _ _ _ _ _ hv12 hv2 (HB1.out.trans HB2.out.symm) (by rw [HB1.out]; exact HLL.out)).mono ?_; rintro e w3 ⟨rfl, k, rfl⟩; have hB3 := below_drewN hB2 k)
      | (go_at_call 34; refine (join_any _ ss _ (hv.more hB3) HSU.out.1 HSU.out.2).mono ?_; rintro e w4 ⟨rfl, hB4'⟩; have hB4 := hB3.trans (hB4'.mono hB3.size))
      | (go_at_call 35; refine (rjoin_any _ ss _ (hv.more hB4) HSU.out.1 HSU.out.2).mono ?_; rintro e w5 ⟨rfl, hB5'⟩; have hB5 := hB4.trans (hB5'.mono hB4.size))
      | (go_at_call 9; refine (awake_any _ (hE.more hB5)).mono ?_; rintro e w6 ⟨rfl, hB6'⟩; have hB6 := hB5.trans (hB6'.mono hB5.size)))
    go_ret
    exact ⟨rfl, hB6⟩
  · rw [hl] at HL
    clear hl
    go_enter Tryd.func6, Tryd.ntmps6
    go_wp2_with (first
      | (go_at_call 30; refine HL.out.mono ?_; rintro e w' ⟨rfl, rfl⟩)
      | (go_at_call 9; refine (awake_any _ hE).mono ?_; rintro e w1 ⟨rfl, hb⟩))
    go_ret
    exact ⟨rfl, hb⟩

theorem numR_bounds (l : List UInt8) : -9223372036854775808 ≤ (numR l).1 ∧ (numR l).1 ≤ 9223372036854775807 := by
  unfold numR
  cases hf : formB l
  · simp
  · cases hfit : fitB l
    · simp
    · simp only [if_true, valI]
      unfold fitB at hfit
      cases hn : negB l
      · rw [hn] at hfit
        simp at hfit
        simp
        omega
      · rw [hn] at hfit
        simp at hfit
        simp
        omega
theorem numR_err (l : List UInt8) : (numR l).2 = 0 ∨ (numR l).2 = 3 ∨ (numR l).2 = 4 := by
  unfold numR
  cases formB l <;> cases fitB l <;> simp
theorem unquote_some (s : ByteArray) (hs : s.size ≤ 40000) : ∃ (t : List UInt8) (x : Int), (x = 0 ∧ s.data.toList = quoteL t ∨ x = 3 ∧ t = []) ∧
    (∀ w, Calls Tryd.prog 26 #[.string s] w fun e w' => e = .returned (.tuple #[.string ⟨t.toArray⟩, .int .i64 x]) ∧ Below w.heap.size w w') := by
  by_cases h : ∃ t, s.data.toList = quoteL t
  · obtain ⟨t, ht⟩ := h
    exact ⟨t, 0, .inl ⟨rfl, ht⟩, fun w => unquote_yes s t w hs ht⟩
  · exact ⟨[], 3, .inr ⟨rfl, rfl⟩, fun w => unquote_no s w hs fun t ht => h ⟨t, ht⟩⟩
theorem number_eq (s : ByteArray) (x y : Int) (w : World) (hs : s.size ≤ 40000) (hE : Env w) (h : numR s.data.toList = (x, y)) :
    Calls Tryd.prog 22 #[.string s] w fun e w' => e = .returned (.tuple #[.int .i64 x, .int .i64 y]) ∧ Below w.heap.size w w' := by
  have := number_any s w hs hE
  rw [h] at this
  exact this
theorem size_mk (l : List UInt8) : (⟨l.toArray⟩ : ByteArray).size = l.length := by simp [ByteArray.size]

set_option maxRecDepth 100000 in
set_option maxHeartbeats 4000000 in
theorem textBack_walk (s : ByteArray) (A : Option Addr) (c : Nat) (ss : List ByteArray) (n : Int) (w : World) (hs : s.size ≤ maxLen) (hv : StrL w (.slice A ss.length c) ss) (hbig : ss.length ≤ 140737488355328) (hsz : ∀ s ∈ ss, s.size ≤ 140737488355328)
    (h0 : -9223372036854775808 ≤ n) (h1 : n ≤ 9223372036854775807) (hE : Env w) :
    Calls Tryd.prog 7 #[.string s, .slice A ss.length c, .int .i64 n] w fun e w' => e = .returned (.bool true) ∧ Below w.heap.size w w' := by
  have HL := Lib.hid (long_any _ ss 400 w hv hbig hsz (by omega) (by omega))
  have HD := Lib.hid (fun w hE => decimal_any n w h0 h1 hE)
  have HN : Hid (∀ w, Env w → Calls Tryd.prog 22 #[.string ⟨(Lib.itoa n).toArray⟩] w fun e w' => e = .returned (.tuple #[.int .i64 n, .int .i64 0]) ∧ Below w.heap.size w w') := Lib.hid fun w hE =>
    number_eq _ n 0 w (by have := Lib.itoa_length_le n h0 h1; rw [size_mk]; omega) hE (by simpa using itoa_facts n h0 h1)
  clear hbig hsz h0 h1
  by_cases h : 400 < (s.size : Int)
  · have HS := Lib.hid hs
    clear hs
    go_enter Tryd.func7, Tryd.ntmps7
    go_wp2_with (go_at_call 9; refine (awake_any _ hE).mono ?_; rintro e w1 ⟨rfl, hb⟩)
    go_ret
    exact ⟨rfl, hb⟩
  cases hl : longB ss 400
  case true =>
    rw [hl] at HL
    clear hl
    go_enter Tryd.func7, Tryd.ntmps7
    go_wp2_with (first
      | (go_at_call 30; refine HL.out.mono ?_; rintro e w' ⟨rfl, rfl⟩)
      | (go_at_call 9; refine (awake_any _ hE).mono ?_; rintro e w1 ⟨rfl, hb⟩))
    go_ret
    exact ⟨rfl, hb⟩
  have hl1 := long_no ss 400 hl
  rw [hl] at HL
  have hs4 : s.size ≤ 40000 := by omega
  have hn : ss.length ≤ 2000 := by omega
  have hsu : ((bytesOf ss).map List.length).sum ≤ 2000 := by unfold sumL at hl1; omega
  have HJ := Lib.hid (fun w hv => join_any (.slice A ss.length c) ss w hv hn hsu)
  have hJl : (⟨(joinL (bytesOf ss)).toArray⟩ : ByteArray).size ≤ 40000 := by
    have h2 := joinL_le (bytesOf ss)
    rw [bytesOf_len] at h2
    rw [size_mk]; omega
  have HW := Lib.hid (fun w => words_yes ⟨(joinL (bytesOf ss)).toArray⟩ (bytesOf ss) w hJl (by simp))
  have hQl : (⟨(quoteL s.data.toList).toArray⟩ : ByteArray).size ≤ 40000 := by
    have h2 := flatMap_qb_le s.data.toList
    simp only [Array.length_toList, ByteArray.size_data] at h2
    rw [size_mk]
    simp only [quoteL, List.length_cons, List.length_append, List.length_nil]
    omega
  have HQ := Lib.hid (fun w => quote_any s w hs4)
  have hU : ∀ w, Calls Tryd.prog 26 #[.string ⟨(quoteL s.data.toList).toArray⟩] w fun e w' => e = .returned (.tuple #[.string s, .int .i64 0]) ∧ Below w.heap.size w w' := fun w => by
    have := unquote_yes ⟨(quoteL s.data.toList).toArray⟩ s.data.toList w hQl (by simp)
    rw [Lib.mk_data] at this
    exact this
  have HU := Lib.hid hU
  have HSL : Hid ((bytesOf ss).length ≤ 2000) := Lib.hid (by rw [bytesOf_len]; exact hn)
  generalize hqq : (⟨(quoteL s.data.toList).toArray⟩ : ByteArray) = QQ at *
  generalize hjj : (⟨(joinL (bytesOf ss)).toArray⟩ : ByteArray) = JJ at *
  -- the second half
  obtain ⟨x, y, hR⟩ : ∃ x y, numR s.data.toList = (x, y) := ⟨_, _, rfl⟩
  have HN2 := Lib.hid (fun w hE => number_eq s x y w hs4 hE hR)
  obtain ⟨t, x2, ht, hU2⟩ := unquote_some s hs4
  have HU2 := Lib.hid hU2
  obtain ⟨L, x3, hLl, hL3, hW2, _⟩ := words_some s (by omega)
  have HW2 := Lib.hid hW2
  have hxb := numR_bounds s.data.toList
  rw [hR] at hxb
  have HD2 := Lib.hid (fun w hE => decimal_any x w hxb.1 hxb.2 hE)
  obtain ⟨b1, hb1, F1⟩ : ∃ b1 : Bool, (y != 0) = b1 ∧ Hid (b1 = false → (Lib.itoa x == s.toList) = true) := by
    refine ⟨_, rfl, Lib.hid fun h => ?_⟩
    have hy : y = 0 := by simpa using h
    rw [beq_iff_eq, ByteArray.toList_eq]
    exact itoa_back _ _ (by rw [hR, hy])
  obtain ⟨b2, hb2, F2, HQ2⟩ : ∃ b2 : Bool, (x2 != 0) = b2 ∧ Hid (b2 = false → (quoteL t == s.toList) = true) ∧
      Hid (b2 = false → ∀ w, Calls Tryd.prog 28 #[.string ⟨t.toArray⟩] w fun e w' => e = .returned (.string ⟨(quoteL t).toArray⟩) ∧ Below w.heap.size w w') := by
    refine ⟨_, rfl, Lib.hid fun h => ?_, Lib.hid fun h w => ?_⟩
    all_goals
      have hx : x2 = 0 := by simpa using h
      rcases ht with ⟨_, ht⟩ | ⟨h3, _⟩
    · rw [beq_iff_eq, ByteArray.toList_eq]; exact ht.symm
    · rw [hx] at h3; cases h3
    · have := quote_any ⟨t.toArray⟩ w (by
        rw [size_mk]
        have h1 := congrArg List.length ht
        have h2 := quoteL_ge t
        simp only [Array.length_toList, ByteArray.size_data] at h1
        omega)
      simpa using this
    · rw [hx] at h3; cases h3
  obtain ⟨b3, hb3, F3, HJ2⟩ : ∃ b3 : Bool, (x3 != 0) = b3 ∧ Hid (b3 = false → (joinL L == s.toList) = true) ∧
      Hid (b3 = false → ∀ w v s3, StrL w v s3 → bytesOf s3 = L → Calls Tryd.prog 34 #[v] w fun e w' => e = .returned (.string ⟨(joinL L).toArray⟩) ∧ Below w.heap.size w w') := by
    refine ⟨_, rfl, Lib.hid fun h => ?_, Lib.hid fun h w v s3 hv3 hb => ?_⟩
    all_goals
      have hx : x3 = 0 := by simpa using h
      rcases hL3 with ⟨_, ht⟩ | h3
    · rw [beq_iff_eq, ByteArray.toList_eq]; exact ht.symm
    · rw [hx] at h3; cases h3
    · have h1 := join_bounds L
      have h2 : (joinL L).length = s.size := by rw [← ht]; simp
      have := join_any v s3 w hv3 (by rw [← bytesOf_len, hb]; omega) (by rw [hb]; omega)
      rw [hb] at this
      exact this
    · rw [hx] at h3; cases h3
  clear hR hl1 hl hn hsu hJl hQl hU hU2 hW2 ht hL3 hxb hLl hqq hjj
  cases b1 <;> cases b2 <;> cases b3
  all_goals
    try have f1 := F1.out (by trivial)
    try have f2 := F2.out (by trivial)
    try have f3 := F3.out (by trivial)
    go_enter Tryd.func7, Tryd.ntmps7
    go_wp2_with (first
      | (go_at_call 30; refine HL.out.mono ?_; rintro e w' ⟨rfl, rfl⟩)
      | (go_at_call 24; refine (HD.out _ hE).mono ?_; rintro e w1 ⟨rfl, hB1⟩; refine Hid.out ?_))
    refine Lib.hid ?_
    go_wp2_with (first
      | (go_at_call 22; refine (HN.out _ (hE.more hB1)).mono ?_; rintro e w2 ⟨rfl, hB2'⟩; have hB2 := hB1.trans (hB2'.mono hB1.size))
      | (go_at_call 28; refine (HQ.out _).mono ?_; rintro e w3 ⟨rfl, hB3'⟩; have hB3 := hB2.trans (hB3'.mono hB2.size))
      | (go_at_call 26; refine (HU.out _).mono ?_; rintro e w4 ⟨rfl, hB4'⟩; have hB4 := hB3.trans (hB4'.mono hB3.size))
      | (go_at_call 34; refine (HJ.out _ (hv.more hB4)).mono ?_; rintro e w5 ⟨rfl, hB5'⟩; have hB5 := hB4.trans (hB5'.mono hB4.size))
      | (go_at_call 31; refine (HW.out _).mono ?_; rintro e w6 ⟨⟨v6, s6, rfl, hv6, hb6⟩, hB6'⟩; have HB6 := Lib.hid hb6; clear hb6; have hB6 := hB5.trans (hB6'.mono hB5.size); have hv0 := hv.more hB6)
      | (go_at_call 33; refine (same_true _ _ _ _ _ hv6 hv0 HB6.out (by rw [HB6.out]; exact HSL.out)).mono ?_; rintro e w7 ⟨rfl, k, rfl⟩; have hB7 := below_drewN hB6 k; refine Hid.out ?_))
    refine Lib.hid ?_
    go_wp2_with (first
      | (go_at_call 22; refine (HN2.out _ (hE.more hB7)).mono ?_; rintro e w8 ⟨rfl, hB8'⟩; have hB8 := hB7.trans (hB8'.mono hB7.size))
      | (go_at_call 26; refine (HU2.out _).mono ?_; rintro e w9 ⟨rfl, hB9'⟩; have hB9 := hB8.trans (hB9'.mono hB8.size))
      | (go_at_call 31; refine (HW2.out _).mono ?_; rintro e w10 ⟨⟨v10, s10, rfl, hv10, hb10⟩, hB10'⟩; have HB10 := Lib.hid hb10; clear hb10; have hB10 := hB9.trans (hB10'.mono hB9.size); refine Hid.out ?_))
    refine Lib.hid ?_
    have hC := hB10
    have hvc := hv10
    go_wp2_with (first
      | (go_at_call 24; refine (HD2.out _ (hE.more hC)).mono ?_; rintro e w11 ⟨rfl, hX⟩; have hC := hC.trans (hX.mono hC.size); have hvc := hvc.more hX)
      | (go_at_call 28; refine (HQ2.out (by trivial) _).mono ?_; rintro e w12 ⟨rfl, hX⟩; have hC := hC.trans (hX.mono hC.size); have hvc := hvc.more hX)
      | (go_at_call 34; refine (HJ2.out (by trivial) _ _ _ hvc HB10.out).mono ?_; rintro e w13 ⟨rfl, hX⟩; have hC := hC.trans (hX.mono hC.size); have hvc := hvc.more hX)
      | (go_at_call 9; refine (awake_any _ (hE.more hC)).mono ?_; rintro e w14 ⟨rfl, hX⟩; have hC := hC.trans (hX.mono hC.size)))
    go_ret
    exact ⟨rfl, hC⟩
end Go.Proofs.YtcdpcbdmnmipcaaDoor
