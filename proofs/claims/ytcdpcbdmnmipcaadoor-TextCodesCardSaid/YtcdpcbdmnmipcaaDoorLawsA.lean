/- The examples of the chapter, and the walks of the laws of layer 1. -/
import Derived.Test.YtcdpcbdmnmipcaaDoorTextH
import Derived.Test.YtcdpcbdmnmipcaaDoorTextK
namespace Go.Proofs.YtcdpcbdmnmipcaaDoor
open Go.RowKit
set_option linter.unusedSimpArgs false
set_option linter.unusedVariables false

theorem airport_any (s : ByteArray) (w : World) (hs : s.size ≤ maxLen) : Calls Tryd.prog 10 #[.string s] w fun e w' => e = .returned (.bool (capsB s 3)) ∧ w = w' := by
  go_enter Tryd.func10, Tryd.ntmps10
  go_wp2_with (go_at_call 36; refine (capitals_any _ _ _ hs).mono ?_; rintro e w' ⟨rfl, rfl⟩)
  go_ret
  exact ⟨rfl, rfl⟩
theorem country_any (s : ByteArray) (w : World) (hs : s.size ≤ maxLen) : Calls Tryd.prog 12 #[.string s] w fun e w' => e = .returned (.bool (capsB s 2)) ∧ w = w' := by
  go_enter Tryd.func12, Tryd.ntmps12
  go_wp2_with (go_at_call 36; refine (capitals_any _ _ _ hs).mono ?_; rintro e w' ⟨rfl, rfl⟩)
  go_ret
  exact ⟨rfl, rfl⟩
theorem class_any (s : ByteArray) (w : World) (hs : s.size ≤ maxLen) : Calls Tryd.prog 16 #[.string s] w fun e w' => e = .returned (.bool (capsB s 1)) ∧ w = w' := by
  go_enter Tryd.func16, Tryd.ntmps16
  go_wp2_with (go_at_call 36; refine (capitals_any _ _ _ hs).mono ?_; rintro e w' ⟨rfl, rfl⟩)
  go_ret
  exact ⟨rfl, rfl⟩
theorem rairport_any (s : ByteArray) (w : World) (hs : s.size ≤ maxLen) : Calls Tryd.prog 11 #[.string s] w fun e w' => e = .returned (.bool (capsB s 3)) ∧ w = w' := by
  go_enter Tryd.func11, Tryd.ntmps11
  go_wp2_with (go_at_call 37; refine (letters_any _ _ _ hs).mono ?_; rintro e w' ⟨rfl, rfl⟩)
  go_ret
  exact ⟨rfl, rfl⟩
theorem rcountry_any (s : ByteArray) (w : World) (hs : s.size ≤ maxLen) : Calls Tryd.prog 13 #[.string s] w fun e w' => e = .returned (.bool (capsB s 2)) ∧ w = w' := by
  go_enter Tryd.func13, Tryd.ntmps13
  go_wp2_with (go_at_call 37; refine (letters_any _ _ _ hs).mono ?_; rintro e w' ⟨rfl, rfl⟩)
  go_ret
  exact ⟨rfl, rfl⟩
theorem rclass_any (s : ByteArray) (w : World) (hs : s.size ≤ maxLen) : Calls Tryd.prog 17 #[.string s] w fun e w' => e = .returned (.bool (capsB s 1)) ∧ w = w' := by
  go_enter Tryd.func17, Tryd.ntmps17
  go_wp2_with (go_at_call 37; refine (letters_any _ _ _ hs).mono ?_; rintro e w' ⟨rfl, rfl⟩)
  go_ret
  exact ⟨rfl, rfl⟩

/-! ### the examples of the chapter -/
theorem lit2 (w : World) (a b : ByteArray) (t : TypeId) : StrL (w.alloc (.cells #[.string a, .string b] t)) (.slice (some ⟨w.heap.size, 0, none⟩) 2 2) [a, b] := by
  refine ⟨_, 2, rfl, .inr ⟨w.heap.size, 0, rfl, by simp, fun i hi => ?_⟩⟩
  match i, hi with
  | 0, _ => simp
  | 1, _ => simp
theorem ml (n : Nat) (h : n ≤ 40000) : n ≤ maxLen := by unfold maxLen; omega
theorem ex1 (w : World) (hE : Env w) : Calls Tryd.prog 22 #[.string ⟨#[45, 49, 50]⟩] w fun e w' => e = .returned (.tuple #[.int .i64 (-12), .int .i64 0]) ∧ Below w.heap.size w w' := by
  have := number_any ⟨#[45, 49, 50]⟩ w (by decide) hE
  rw [show numR (⟨#[45, 49, 50]⟩ : ByteArray).data.toList = (-12, 0) from by decide +kernel] at this
  exact this
theorem ex2 (w : World) (hE : Env w) : Calls Tryd.prog 22 #[.string ⟨#[45, 48]⟩] w fun e w' => e = .returned (.tuple #[.int .i64 0, .int .i64 3]) ∧ Below w.heap.size w w' := by
  have := number_any ⟨#[45, 48]⟩ w (by decide) hE
  rw [show numR (⟨#[45, 48]⟩ : ByteArray).data.toList = (0, 3) from by decide +kernel] at this
  exact this
theorem ex3 (w : World) : Calls Tryd.prog 31 #[.string ⟨#[97, 98, 32, 34, 99, 32, 100, 34]⟩] w fun e w' => (∃ v ss, e = .returned (.tuple #[v, .int .i64 0]) ∧ StrL w' v ss ∧ bytesOf ss = [[97, 98], [99, 32, 100]]) ∧ Below w.heap.size w w' :=
  words_yes ⟨#[97, 98, 32, 34, 99, 32, 100, 34]⟩ [[97, 98], [99, 32, 100]] w (by decide) (by decide +kernel)
theorem ex4 (w : World) : Calls Tryd.prog 14 #[.string ⟨#[57, 87]⟩] w fun e w' => e = .returned (.bool true) ∧ w = w' := by
  have := carrier_any ⟨#[57, 87]⟩ w (ml _ (by decide))
  rw [show carB ⟨#[57, 87]⟩ = true from by decide +kernel] at this
  exact this
theorem ex5 (w : World) : Calls Tryd.prog 14 #[.string ⟨#[57, 57]⟩] w fun e w' => e = .returned (.bool false) ∧ w = w' := by
  have := carrier_any ⟨#[57, 57]⟩ w (ml _ (by decide))
  rw [show carB ⟨#[57, 57]⟩ = false from by decide +kernel] at this
  exact this
theorem ex6 (w : World) : Calls Tryd.prog 10 #[.string ⟨#[76, 72, 82]⟩] w fun e w' => e = .returned (.bool true) ∧ w = w' := by
  have := airport_any ⟨#[76, 72, 82]⟩ w (ml _ (by decide))
  rw [show capsB ⟨#[76, 72, 82]⟩ 3 = true from by decide +kernel] at this
  exact this
theorem ex7 (w : World) : Calls Tryd.prog 20 #[.string ⟨#[77, 65, 82, 89, 32, 74, 79]⟩] w fun e w' => e = .returned (.bool true) ∧ w = w' := by
  have := name_any ⟨#[77, 65, 82, 89, 32, 74, 79]⟩ w (ml _ (by decide))
  rw [show nameB ⟨#[77, 65, 82, 89, 32, 74, 79]⟩ = true from by decide +kernel] at this
  exact this
theorem ex8 (w : World) : Calls Tryd.prog 28 #[.string ⟨#[97, 34, 10]⟩] w fun e w' => e = .returned (.string ⟨#[34, 97, 92, 34, 92, 120, 48, 97, 34]⟩) ∧ Below w.heap.size w w' := by
  have := quote_any ⟨#[97, 34, 10]⟩ w (by decide)
  rw [show (quoteL (⟨#[97, 34, 10]⟩ : ByteArray).data.toList).toArray = #[34, 97, 92, 34, 92, 120, 48, 97, 34] from by decide +kernel] at this
  exact this

set_option maxRecDepth 100000 in
set_option maxHeartbeats 2000000 in
theorem awake_any (w : World) (hE : Env w) : Calls Tryd.prog 9 #[] w fun e w' => e = .returned (.bool true) ∧ Below w.heap.size w w' := by
  go_enter Tryd.func9, Tryd.ntmps9
  go_wp2_with (go_at_call 22; refine (ex1 _ hE).mono ?_; rintro e w1 ⟨rfl, hb1⟩; refine Hid.out ?_)
  refine Lib.hid ?_
  have hE1 := hE.more hb1
  go_wp2_with (go_at_call 22; refine (ex2 _ hE1).mono ?_; rintro e w2 ⟨rfl, hb2⟩; refine Hid.out ?_)
  refine Lib.hid ?_
  have hB2 := hb1.trans (hb2.mono hb1.size)
  go_wp2_with (go_at_call 31; refine (ex3 _).mono ?_; rintro e w3 ⟨⟨v, ss, rfl, hv, hss⟩, hb3⟩; refine Hid.out ?_)
  refine Lib.hid ?_
  have hB3 := hB2.trans (hb3.mono hB2.size)
  have HS : Hid (sameB ss [⟨#[97, 98]⟩, ⟨#[99, 32, 100]⟩] = true) := Lib.hid (by
    simp only [sameB, decide_eq_true_eq]
    rw [hss]; rfl)
  have hl : ss.length ≤ 2000 := by
    have := congrArg List.length hss
    rw [bytesOf_len] at this
    simp at this; omega
  have hsame := fun o => same_any v (.slice (some ⟨w3.heap.size, 0, none⟩) 2 2) ss [⟨#[97, 98]⟩, ⟨#[99, 32, 100]⟩] (w3.alloc (.cells #[.string ⟨#[97, 98]⟩, .string ⟨#[99, 32, 100]⟩] o)) (hv.alloc _) (lit2 _ _ _ _) hl (by decide)
  rw [HS.out] at hsame
  have HSA := Lib.hid hsame
  clear hss hsame
  go_wp2_with (go_at_call 33; refine (HSA.out _).mono ?_; rintro e w4 ⟨rfl, n, rfl⟩; refine Hid.out ?_)
  refine Lib.hid ?_
  have hB4 := below_drewN (hB3.alloc hB3.size (.cells #[.string ⟨#[97, 98]⟩, .string ⟨#[99, 32, 100]⟩] 9)) n
  go_wp2_with (first
    | (go_at_call 14; (with_reducible refine (ex4 _).mono ?_); rintro e w' ⟨rfl, rfl⟩)
    | (go_at_call 14; (with_reducible refine (ex5 _).mono ?_); rintro e w' ⟨rfl, rfl⟩)
    | (go_at_call 10; refine (ex6 _).mono ?_; rintro e w' ⟨rfl, rfl⟩)
    | (go_at_call 20; refine (ex7 _).mono ?_; rintro e w' ⟨rfl, rfl⟩)
    | (go_at_call 28; refine (ex8 _).mono ?_; rintro e w5 ⟨rfl, hb5⟩))
  go_ret
  exact ⟨rfl, hB4.trans (hb5.mono hB4.size)⟩

/-! ### the laws -/
set_option maxRecDepth 100000 in
set_option maxHeartbeats 2000000 in
theorem textCodes_walk (s : ByteArray) (a b : Int) (w : World) (hs : s.size ≤ maxLen) (hE : Env w) :
    Calls Tryd.prog 3 #[.string s, .int .i64 a, .int .i64 b] w fun e w' => e = .returned (.bool true) ∧ Below w.heap.size w w' := by
  by_cases h : 200 < (s.size : Int)
  · have HS := Lib.hid hs
    clear hs
    go_enter Tryd.func3, Tryd.ntmps3
    go_wp2_with (go_at_call 9; refine (awake_any _ hE).mono ?_; rintro e w1 ⟨rfl, hb⟩)
    go_ret
    exact ⟨rfl, hb⟩
  · go_enter Tryd.func3, Tryd.ntmps3
    go_wp2_with (first
      | (go_at_call 10; refine (airport_any _ _ hs).mono ?_; rintro e w' ⟨rfl, rfl⟩)
      | (go_at_call 11; refine (rairport_any _ _ hs).mono ?_; rintro e w' ⟨rfl, rfl⟩)
      | (go_at_call 12; refine (country_any _ _ hs).mono ?_; rintro e w' ⟨rfl, rfl⟩)
      | (go_at_call 13; refine (rcountry_any _ _ hs).mono ?_; rintro e w' ⟨rfl, rfl⟩)
      | (go_at_call 14; refine (carrier_any _ _ hs).mono ?_; rintro e w' ⟨rfl, rfl⟩)
      | (go_at_call 15; refine (rcarrier_any _ _ hs).mono ?_; rintro e w' ⟨rfl, rfl⟩)
      | (go_at_call 16; refine (class_any _ _ hs).mono ?_; rintro e w' ⟨rfl, rfl⟩)
      | (go_at_call 17; refine (rclass_any _ _ hs).mono ?_; rintro e w' ⟨rfl, rfl⟩)
      | (go_at_call 18; refine (code_any _ _ _ _ hs).mono ?_; rintro e w' ⟨rfl, rfl⟩)
      | (go_at_call 19; refine (rcode_any _ _ _ _ hs).mono ?_; rintro e w' ⟨rfl, rfl⟩)
      | (go_at_call 20; refine (name_any _ _ hs).mono ?_; rintro e w' ⟨rfl, rfl⟩)
      | (go_at_call 21; refine (rname_any _ _ hs).mono ?_; rintro e w' ⟨rfl, rfl⟩)
      | (go_at_call 9; refine (awake_any _ hE).mono ?_; rintro e w1 ⟨rfl, hb⟩))
    go_ret
    exact ⟨rfl, hb⟩

set_option maxRecDepth 100000 in
set_option maxHeartbeats 2000000 in
theorem textNumbers_walk (s : ByteArray) (n : Int) (w : World) (hs : s.size ≤ maxLen) (h0 : -9223372036854775808 ≤ n) (h1 : n ≤ 9223372036854775807) (hE : Env w) :
    Calls Tryd.prog 4 #[.string s, .int .i64 n] w fun e w' => e = .returned (.bool true) ∧ Below w.heap.size w w' := by
  have HD := Lib.hid (fun w hE => decimal_any n w h0 h1 hE)
  have HRD := Lib.hid (fun w => rdecimal_any n w h0 h1)
  clear h0 h1
  by_cases h : 200 < (s.size : Int)
  · have HS := Lib.hid hs
    clear hs
    go_enter Tryd.func4, Tryd.ntmps4
    go_wp2_with (go_at_call 9; refine (awake_any _ hE).mono ?_; rintro e w1 ⟨rfl, hb⟩)
    go_ret
    exact ⟨rfl, hb⟩
  · have hs4 : s.size ≤ 40000 := by omega
    have h1 := fun w hE => number_any s w hs4 hE
    have h2 := fun w => rnumber_any s w hs4
    obtain ⟨x, y, hR⟩ : ∃ x y, numR s.data.toList = (x, y) := ⟨_, _, rfl⟩
    rw [hR] at h1 h2
    have H1 := Lib.hid h1
    have H2 := Lib.hid h2
    clear hR h1 h2
    go_enter Tryd.func4, Tryd.ntmps4
    go_wp2_with (first
      | (go_at_call 22; refine (H1.out _ hE).mono ?_; rintro e w1 ⟨rfl, hb1⟩)
      | (go_at_call 23; refine (H2.out _).mono ?_; rintro e w' ⟨rfl, rfl⟩)
      | (go_at_call 24; refine (HD.out _ (hE.more hb1)).mono ?_; rintro e w2 ⟨rfl, hb2'⟩; have hb2 := hb1.trans (hb2'.mono hb1.size))
      | (go_at_call 25; refine (HRD.out _).mono ?_; rintro e w3 ⟨rfl, k, rfl⟩; have hb3 := below_drewN hb2 k)
      | (go_at_call 9; refine (awake_any _ (hE.more hb3)).mono ?_; rintro e w4 ⟨rfl, hb4⟩))
    go_ret
    exact ⟨rfl, hb3.trans (hb4.mono hb3.size)⟩

set_option maxRecDepth 100000 in
set_option maxHeartbeats 2000000 in
theorem textQuotes_walk (s q : ByteArray) (w : World) (hs : s.size ≤ maxLen) (hq : q.size ≤ maxLen) (hsum : (s.size : Int) + (q.size : Int) ≤ 9223372036854775807) (hE : Env w) :
    Calls Tryd.prog 5 #[.string s, .string q] w fun e w' => e = .returned (.bool true) ∧ Below w.heap.size w w' := by
  by_cases h : 400 < (s.size : Int) + (q.size : Int)
  · have HS := Lib.hid (And.intro hs hq)
    clear hs hq
    go_enter Tryd.func5, Tryd.ntmps5
    go_wp2_with (go_at_call 9; refine (awake_any _ hE).mono ?_; rintro e w1 ⟨rfl, hb⟩)
    go_ret
    exact ⟨rfl, hb⟩
  · have hs4 : s.size ≤ 40000 := by omega
    have hq4 : q.size ≤ 40000 := by omega
    have hU : ∃ (t : ByteArray) (x : Int), (∀ w, Calls Tryd.prog 26 #[.string q] w fun e w' => e = .returned (.tuple #[.string t, .int .i64 x]) ∧ Below w.heap.size w w') ∧
        (∀ w, Calls Tryd.prog 27 #[.string q] w fun e w' => e = .returned (.tuple #[.string t, .int .i64 x]) ∧ Below w.heap.size w w') := by
      by_cases hu : ∃ t, q.data.toList = quoteL t
      · obtain ⟨t, ht⟩ := hu
        exact ⟨⟨t.toArray⟩, 0, fun w => unquote_yes q t w hq4 ht, fun w => runquote_yes q t w hq4 ht⟩
      · exact ⟨⟨#[]⟩, 3, fun w => unquote_no q w hq4 fun t ht => hu ⟨t, ht⟩, fun w => runquote_no q w hq4 fun t ht => hu ⟨t, ht⟩⟩
    obtain ⟨t, x, h1, h2⟩ := hU
    have H1 := Lib.hid h1
    have H2 := Lib.hid h2
    clear h1 h2
    go_enter Tryd.func5, Tryd.ntmps5
    go_wp2_with (first
      | (go_at_call 26; refine (H1.out _).mono ?_; rintro e w1 ⟨rfl, hb1⟩)
      | (go_at_call 27; refine (H2.out _).mono ?_; rintro e w2 ⟨rfl, hb2'⟩; have hb2 := hb1.trans (hb2'.mono hb1.size))
      | (go_at_call 28; refine (quote_any _ _ hs4).mono ?_; rintro e w3 ⟨rfl, hb3'⟩; have hb3 := hb2.trans (hb3'.mono hb2.size))
      | (go_at_call 29; refine (rquote_any _ _ hs4).mono ?_; rintro e w4 ⟨rfl, hb4'⟩; have hb4 := hb3.trans (hb4'.mono hb3.size))
      | (go_at_call 9; refine (awake_any _ (hE.more hb4)).mono ?_; rintro e w5 ⟨rfl, hb5'⟩; have hb5 := hb4.trans (hb5'.mono hb4.size)))
    go_ret
    exact ⟨rfl, hb5⟩
end Go.Proofs.YtcdpcbdmnmipcaaDoor
