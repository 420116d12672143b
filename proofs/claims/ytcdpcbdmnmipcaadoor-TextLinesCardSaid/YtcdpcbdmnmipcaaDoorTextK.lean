/- Walks of the reference's end and Words. -/
import Derived.Test.YtcdpcbdmnmipcaaDoorTextJ
namespace Go.Proofs.YtcdpcbdmnmipcaaDoor
open Go.RowKit
set_option linter.unusedSimpArgs false
set_option linter.unusedVariables false

/-- a number between two others -/
def SomeEnd (i n : Nat) (e : Ending) : Prop := ∃ k : Nat, i ≤ k ∧ k ≤ n ∧ e = .returned (.int .i64 k)

set_option maxRecDepth 100000 in
set_option maxHeartbeats 2000000 in
theorem end_any (s : ByteArray) (i : Nat) (w : World) (hs : s.size ≤ 40000) (hi : i < s.size) :
    Calls Tryd.prog 51 #[.string s, .int .i64 i] w fun e w' => SomeEnd i s.size e ∧ w = w' := by
  have hi' : (i : Int) < (s.size : Int) := by omega
  by_cases h34 : s[i].toNat = 34
  · have t34 : ((s[i].toNat : Int) == 34) = true := by simp; omega
    clear h34
    go_enter Tryd.func51, Tryd.ntmps51
    go_wp2
    go_loop [5] (fun q => ∃ k : Nat, i < k ∧ k ≤ s.size + 1 ∧ q = .int .i64 k) (fun q => s.size + 1 - (intOf q).toNat)
    case atStart => exact ⟨i + 1, by omega, by omega, by go_num⟩
    case round =>
      obtain ⟨k, hk1, hk2, rfl⟩ := hrel
      by_cases hlt : k < s.size
      · by_cases hq : s[k].toNat = 34
        · have tq : ((s[k].toNat : Int) != 34) = false := by simp; omega
          clear hq
          go_wp2
          go_ret
          exact ⟨⟨k + 1, by omega, by omega, by go_num⟩, rfl⟩
        · have tq : ((s[k].toNat : Int) != 34) = true := by simp; omega
          by_cases hb : s[k].toNat = 92
          · have tb : ((s[k].toNat : Int) == 92) = true := by simp; omega
            clear hq hb
            go_wp2
            go_round
            case rel => exact ⟨k + 2, by omega, by omega, by go_num⟩
            case measure => simp [intOf]; omega
          · have tb : ((s[k].toNat : Int) == 92) = false := by simp; omega
            clear hq hb
            go_wp2
            go_round
            case rel => exact ⟨k + 1, by omega, by omega, by go_num⟩
            case measure => simp [intOf]; omega
      · have hlt' : ¬ (k : Int) < (s.size : Int) := by omega
        go_wp2
        go_ret
        exact ⟨⟨s.size, by omega, by omega, rfl⟩, rfl⟩
  · have t34 : ((s[i].toNat : Int) == 34) = false := by simp; omega
    clear h34
    go_enter Tryd.func51, Tryd.ntmps51
    go_wp2
    go_loop [5] (fun q => ∃ k : Nat, i ≤ k ∧ k ≤ s.size ∧ q = .int .i64 k) (fun q => s.size - (intOf q).toNat)
    case atStart => exact ⟨i, by omega, by omega, by go_num⟩
    case round =>
      obtain ⟨k, hk1, hk2, rfl⟩ := hrel
      by_cases hlt : k < s.size
      · by_cases hq : s[k].toNat = 32
        · have tq : ((s[k].toNat : Int) != 32) = false := by simp; omega
          clear hq
          go_wp2
          go_ret
          exact ⟨⟨k, by omega, by omega, rfl⟩, rfl⟩
        · have tq : ((s[k].toNat : Int) != 32) = true := by simp; omega
          clear hq
          go_wp2
          go_round
          case rel => exact ⟨k + 1, by omega, by omega, by go_num⟩
          case measure => simp [intOf]; omega
      · have hlt' : ¬ (k : Int) < (s.size : Int) := by omega
        go_wp2
        go_ret
        exact ⟨⟨k, by omega, by omega, rfl⟩, rfl⟩

set_option maxRecDepth 100000 in
set_option maxHeartbeats 2000000 in
theorem end_plain (s : ByteArray) (i : Nat) (t rest : List UInt8) (w : World) (hs : s.size ≤ 40000) (hp : plainL t = true) (hd : s.data.toList.drop i = t ++ rest) (hr : rest = [] ∨ ∃ r, rest = 32 :: r) :
    Calls Tryd.prog 51 #[.string s, .int .i64 i] w fun e w' => e = .returned (.int .i64 ((i + t.length : Nat) : Int)) ∧ w = w' := by
  have hne := plain_ne t hp
  have hall : t.all okB = true := by simp [plainL] at hp; simpa using hp.2
  have hhead : ∃ hi : i < s.size, s[i].toNat ≠ 34 := by
    cases t with
    | nil => exact absurd rfl hne
    | cons c r =>
      obtain ⟨hk, e0, _⟩ := drop_head hd
      refine ⟨hk, ?_⟩
      simp only [List.all_cons, Bool.and_eq_true] at hall
      have := hall.1
      simp [okB] at this
      rw [e0]; omega
  obtain ⟨hi, h34⟩ := hhead
  have hi' : (i : Int) < (s.size : Int) := by omega
  have t34 : ((s[i].toNat : Int) == 34) = false := by simp; omega
  have hsz : s.size = i + t.length + rest.length := by
    have := congrArg List.length hd
    simp only [List.length_drop, List.length_append, Array.length_toList, ByteArray.size_data] at this
    omega
  have HD := Lib.hid hd
  have HALL := Lib.hid hall
  have HR := Lib.hid hr
  have HSZ := Lib.hid hsz
  have hle : i + t.length ≤ s.size := by omega
  clear hd hall hne h34 hp hr hsz
  go_enter Tryd.func51, Tryd.ntmps51
  go_wp2
  go_loop [5] (fun q => ∃ j : Nat, j ≤ t.length ∧ q = .int .i64 ((i + j : Nat) : Int)) (fun q => s.size - (intOf q).toNat)
  case atStart => exact ⟨0, by omega, by go_num⟩
  case round =>
    obtain ⟨j, hj, rfl⟩ := hrel
    have hdj : s.data.toList.drop (i + j) = t.drop j ++ rest := by
      rw [← List.drop_drop, HD.out, List.drop_append_of_le_length hj]
    by_cases hlt : j < t.length
    · rw [List.drop_eq_getElem_cons hlt] at hdj
      obtain ⟨hk, e0, _⟩ := drop_head hdj
      have hok : okB t[j] = true := by
        have := HALL.out
        rw [List.all_eq_true] at this
        exact this _ (List.getElem_mem hlt)
      simp [okB] at hok
      have tq : ((s[i + j].toNat : Int) != 32) = true := by rw [e0]; simp; omega
      have hlt' : ((i + j : Nat) : Int) < (s.size : Int) := by omega
      obtain ⟨k, hke⟩ : ∃ k, k = i + j := ⟨_, rfl⟩
      rw [← hke] at hlt' ⊢
      have tq' : ∀ h : k < s.size, ((s[k].toNat : Int) != 32) = true := by subst hke; intro _; exact tq
      have hk' : k < s.size := by omega
      have tq2 := tq' hk'
      have HKE := Lib.hid hke
      clear hdj e0 hok tq tq' hke hk
      go_wp2
      go_round
      case rel => exact ⟨j + 1, by omega, by rw [← Nat.add_assoc, ← HKE.out]; go_num⟩
      case measure => simp [intOf]; omega
    · have hjt : j = t.length := by omega
      rw [hjt, List.drop_length, List.nil_append] at hdj
      rw [hjt]
      obtain ⟨k, hke⟩ : ∃ k, k = i + t.length := ⟨_, rfl⟩
      rw [← hke] at hdj ⊢
      have HKE := Lib.hid hke
      rcases HR.out with hr | ⟨r, hr⟩
      · have hlt' : ¬ (k : Int) < (s.size : Int) := by have := HSZ.out; rw [hr] at this; simp at this; omega
        clear hdj hr hke hjt
        go_wp2
        go_ret
        exact ⟨ret_int (by have := HKE.out; omega), rfl⟩
      · rw [hr] at hdj
        obtain ⟨hk, e0, _⟩ := drop_head hdj
        have tq : ((s[k].toNat : Int) != 32) = false := by rw [e0]; rfl
        clear hdj hr hke hjt e0
        go_wp2
        go_ret
        exact ⟨ret_int (by have := HKE.out; omega), rfl⟩

set_option maxRecDepth 100000 in
set_option maxHeartbeats 2000000 in
theorem end_quote (s : ByteArray) (i : Nat) (t rest : List UInt8) (w : World) (hs : s.size ≤ 40000) (hd : s.data.toList.drop i = quoteL t ++ rest) :
    Calls Tryd.prog 51 #[.string s, .int .i64 i] w fun e w' => e = .returned (.int .i64 ((i + (quoteL t).length : Nat) : Int)) ∧ w = w' := by
  have hd' : s.data.toList.drop i = 34 :: (t.flatMap qb ++ 34 :: rest) := by rw [hd]; simp [quoteL]
  obtain ⟨hi, e0, hd1⟩ := drop_head hd'
  have hi' : (i : Int) < (s.size : Int) := by omega
  have t34 : ((s[i].toNat : Int) == 34) = true := by rw [e0]; rfl
  have hsz : s.size = i + (quoteL t).length + rest.length := by
    have := congrArg List.length hd
    simp only [List.length_drop, List.length_append, Array.length_toList, ByteArray.size_data] at this
    omega
  have HD1 := Lib.hid hd1
  have HSZ := Lib.hid hsz
  clear hd hd' hd1 e0 hsz
  go_enter Tryd.func51, Tryd.ntmps51
  go_wp2
  go_loop [5] (fun q => ∃ (k : Nat) (xs : List UInt8), q = .int .i64 k ∧ Hid (s.data.toList.drop k = xs ++ 34 :: rest ∧ esc xs = true)) (fun q => s.size + 1 - (intOf q).toNat)
  case atStart => exact ⟨i + 1, _, by go_num, Lib.hid ⟨HD1.out, esc_flat t⟩⟩
  case round =>
    obtain ⟨k, xs, rfl, HX⟩ := hrel
    rcases esc_step xs rest _ HX.out.2 HX.out.1 with ⟨_, hS⟩ | ⟨c, d, xs', hc, hS, hx⟩ | ⟨c, xs', hc, hc2, hS, hx⟩
    · have hk1 : k + 1 = i + (quoteL t).length := by
        have h1 := congrArg List.length hS
        have h2 := HSZ.out
        simp only [List.length_drop, List.length_cons, Array.length_toList, ByteArray.size_data] at h1
        omega
      obtain ⟨hk, e0, _⟩ := drop_head hS
      have tq : ((s[k].toNat : Int) != 34) = false := by rw [e0]; rfl
      have HK1 := Lib.hid hk1
      clear e0 hS hk1
      go_wp2
      go_ret
      exact ⟨ret_int (by have := HK1.out; omega), rfl⟩
    · obtain ⟨hk, e0, hS1⟩ := drop_head hS
      obtain ⟨hk2, e1, hS2⟩ := drop_head hS1
      have tq : ((s[k].toNat : Int) != 34) = true := by rw [e0]; simp; omega
      have tb : ((s[k].toNat : Int) == 92) = true := by rw [e0]; simp; omega
      have HS2 := Lib.hid hS2
      have HXX := Lib.hid hx
      clear e0 e1 hS hS1 hS2 hc hx
      go_wp2
      go_round
      case rel => exact ⟨k + 2, xs', by go_num, Lib.hid ⟨HS2.out, HXX.out⟩⟩
      case measure => simp [intOf]; omega
    · obtain ⟨hk, e0, hS1⟩ := drop_head hS
      have tq : ((s[k].toNat : Int) != 34) = true := by rw [e0]; simp; omega
      have tb : ((s[k].toNat : Int) == 92) = false := by rw [e0]; simp; omega
      have HS1 := Lib.hid hS1
      have HXX := Lib.hid hx
      clear e0 hS hS1 hc hc2 hx
      go_wp2
      go_round
      case rel => exact ⟨k + 1, xs', by go_num, Lib.hid ⟨HS1.out, HXX.out⟩⟩
      case measure => simp [intOf]; omega

theorem extract_drop (s : ByteArray) (i k : Nat) (t rest : List UInt8) (hd : s.data.toList.drop i = t ++ rest) (hk : k = i + t.length) : (s.extract i k).data.toList = t := by
  rw [extract_list, List.drop_take, hd, hk, show i + t.length - i = t.length from by omega, List.take_left]

/-- what is left of a line, by its words -/
theorem join_rest (w : List UInt8) (r : List (List UInt8)) : joinL (w :: r) = encW w ++ (r.flatMap fun x => 32 :: encW x) := rfl
theorem rest_head (r : List (List UInt8)) : (r.flatMap fun x => 32 :: encW x) = [] ∨ ∃ q, (r.flatMap fun x => 32 :: encW x) = 32 :: q := by
  cases r with
  | nil => exact .inl rfl
  | cons x r => exact .inr ⟨_, rfl⟩
theorem rest_next (r : List (List UInt8)) (h : r ≠ []) : (r.flatMap fun x => 32 :: encW x) = 32 :: joinL r := by
  cases r with
  | nil => exact absurd rfl h
  | cons x r => rfl

set_option maxRecDepth 100000 in
set_option maxHeartbeats 4000000 in
theorem rwords_yes (s : ByteArray) (l : List (List UInt8)) (w : World) (hs : s.size ≤ 1000) (h : s.data.toList = joinL l) :
    Calls Tryd.prog 32 #[.string s] w fun e w' => (∃ v ss, e = .returned (.tuple #[v, .int .i64 0]) ∧ StrL w' v ss ∧ bytesOf ss = l) ∧ Below w.heap.size w w' := by
  have HJ := Lib.hid h
  have hll : l.length ≤ s.size + 1 ∧ (l.map List.length).sum ≤ s.size := by
    have h1 : s.size = (joinL l).length := by rw [← h]; simp
    have h2 : ∀ r : List (List UInt8), r.length + (r.map List.length).sum ≤ (r.flatMap fun x => 32 :: encW x).length := by
      intro r
      induction r with
      | nil => simp
      | cons x r ih =>
        have : x.length ≤ (encW x).length := by
          unfold encW
          split
          · omega
          · have := quoteL_ge x; omega
        simp only [List.flatMap_cons, List.length_append, List.length_cons, List.map_cons, List.sum_cons]
        omega
    cases l with
    | nil => simp
    | cons x r =>
      have h3 := h2 r
      have : x.length ≤ (encW x).length := by
        unfold encW
        split
        · omega
        · have := quoteL_ge x; omega
      rw [join_rest, List.length_append] at h1
      simp only [List.map_cons, List.sum_cons, List.length_cons]
      omega
  obtain ⟨hl1, hl2⟩ := hll
  clear h
  go_enter Tryd.func32, Tryd.ntmps32
  go_wp2
  have hO0 : SOwn 9 w.heap.size w (.slice none 0 0) [] := SOwn.nil (Nat.le_refl _)
  go_loopw [4, 5] (fun v q wr => ∃ (i m : Nat) (ss : List ByteArray), q = .int .i64 i ∧ i ≤ s.size + 1 ∧ SOwn 9 w.heap.size wr v ss ∧ Below w.heap.size w wr ∧ m ≤ l.length ∧ Hid (bytesOf ss = l.take m) ∧
      Hid ((m < l.length ∧ s.data.toList.drop i = joinL (l.drop m)) ∨ (m = l.length ∧ s.size ≤ i)))
    (fun _ q _ => s.size + 1 - (intOf q).toNat)
  case atStart =>
    refine ⟨0, 0, [], rfl, by omega, hO0, Below.refl _ _, by omega, Lib.hid rfl, Lib.hid ?_⟩
    rcases Nat.eq_zero_or_pos l.length with h0 | h0
    · right
      have : l = [] := List.eq_nil_of_length_eq_zero h0
      have h1 := HJ.out
      rw [this] at h1
      have := congrArg List.length h1
      simp [joinL] at this
      exact ⟨by omega, by simp [this]⟩
    · exact .inl ⟨h0, HJ.out⟩
  case round =>
    obtain ⟨i, m, ss, rfl, hi, hO, hB, hm, HE, HD⟩ := hrel
    have hssl : ss.length ≤ 2000 := by
      have := congrArg List.length HE.out
      rw [bytesOf_len] at this
      simp at this; omega
    rcases HD.out with ⟨hml, hd⟩ | ⟨hml, hsi⟩
    · have hdm := List.drop_eq_getElem_cons hml
      have htm : l.take (m + 1) = l.take m ++ [l[m]] := List.take_succ_eq_append_getElem hml
      generalize l[m] = t at hdm htm
      generalize hr : l.drop (m + 1) = r at hdm
      rw [hdm, join_rest] at hd
      have hsz : s.size - i = (encW t).length + (r.flatMap fun x => 32 :: encW x).length := by
        have := congrArg List.length hd
        simp only [List.length_drop, List.length_append, Array.length_toList, ByteArray.size_data] at this
        omega
      have hpos : 0 < (encW t).length := List.length_pos_iff.2 (encW_ne t)
      have hi1 : (i : Int) < (s.size : Int) := by omega
      have hnext : ((m + 1 < l.length ∧ s.data.toList.drop (i + (encW t).length + 1) = joinL (l.drop (m + 1))) ∨ (m + 1 = l.length ∧ s.size ≤ i + (encW t).length + 1)) := by
        have e1 : s.data.toList.drop (i + (encW t).length) = r.flatMap fun x => 32 :: encW x := by
          rw [← List.drop_drop, hd, List.drop_left]
        rw [hr]
        by_cases hrn : r = []
        · right
          subst hrn
          have h3 := congrArg List.length hr
          simp only [List.length_drop, List.length_nil] at h3
          simp only [List.flatMap_nil, List.length_nil] at hsz
          omega
        · left
          have h3 := congrArg List.length hr
          have h4 := List.length_pos_iff.2 hrn
          simp only [List.length_drop] at h3
          refine ⟨by omega, ?_⟩
          rw [rest_next r hrn] at e1
          rw [← List.drop_drop, e1]
          rfl
      obtain ⟨k, hke⟩ : ∃ k, k = i + (encW t).length := ⟨_, rfl⟩
      rw [← hke] at hnext
      have hik : i < k := by omega
      have hks : k ≤ s.size := by omega
      have HX := Lib.hid (extract_drop s i k _ _ hd hke)
      have hxs : (s.extract i k).size = k - i := by simp [ByteArray.size_extract]; omega
      have hxp : 0 < (s.extract i k).size := by omega
      have hx4 : (s.extract i k).size ≤ 40000 := by omega
      have HN := Lib.hid hnext
      have HT := Lib.hid htm
      have HSZ := Lib.hid hsz
      cases hp : plainL t
      · have henc := encW_quote t hp
        have hend : ∀ w, Calls Tryd.prog 51 #[.string s, .int .i64 i] w fun e w' => e = .returned (.int .i64 (k : Int)) ∧ w = w' := by
          intro w
          rw [hke, henc]
          exact end_quote s i t _ w (by omega) (by rw [← henc]; exact hd)
        have HEND := Lib.hid hend
        have hX2 : (s.extract i k).data.toList = quoteL t := by rw [HX.out, henc]
        have hf : (((s.extract i k)[0]).toNat : Int) = 34 := by
          obtain ⟨_, h0, _⟩ := quoted_ends hX2
          omega
        have tf : ((((s.extract i k)[0]).toNat : Int) == 34) = true := by rw [hf]; rfl
        have hU := fun w => runquote_yes (s.extract i k) t w hx4 hX2
        have HU := Lib.hid hU
        have HSS : Hid (bytesOf (ss ++ [⟨t.toArray⟩]) = l.take (m + 1)) := Lib.hid (by rw [bytesOf_snoc, HE.out, HT.out])
        clear hd hdm htm hsz hnext hke hend hX2 hU hf henc hp hxs hr hpos
        generalize hXe : s.extract i k = X at *
        go_wp2_with (first
          | (go_at_call 51; refine (HEND.out _).mono ?_; rintro e w' ⟨rfl, rfl⟩)
          | (go_at_call 27; refine (HU.out _).mono ?_; rintro e w2 ⟨rfl, hb2⟩; have hO2 := hO.more hb2; have hB2 := hB.trans (hb2.mono hB.size))
          | (at_builtin; refine wpList_sapp strT rfl _ _ rfl _ ss rfl (hO2.alloc _) _ ⟨t.toArray⟩ _ rfl (heap_alloc_new _ _) (by omega) ?_; intro v' w3 hO4 hb4))
        have hB4 : Below w.heap.size w w3 := (hB2.alloc hB2.size _).trans (hb4.mono (Nat.le_refl _))
        go_roundw
        case rel => exact ⟨k + 1, m + 1, _, by go_num, by omega, hO4, hB4, by omega, HSS, HN⟩
        case measure => simp [intOf]; omega
      · have henc := encW_plain t hp
        have hend : ∀ w, Calls Tryd.prog 51 #[.string s, .int .i64 i] w fun e w' => e = .returned (.int .i64 (k : Int)) ∧ w = w' := by
          intro w
          rw [hke, henc]
          exact end_plain s i t _ w (by omega) hp (by rw [← henc]; exact hd) (rest_head r)
        have HEND := Lib.hid hend
        have hX2 : (s.extract i k).data.toList = t := by rw [HX.out, henc]
        have tf : ((((s.extract i k)[0]).toNat : Int) == 34) = false := by
          have h1 := bytes_cons1 (s.extract i k) hxp
          rw [hX2] at h1
          rw [h1] at hp
          simp only [plainL, List.all_cons, Bool.and_eq_true] at hp
          have := hp.2.1
          simp [okB] at this
          simp only [beq_eq_false_iff_ne]
          omega
        have HSS : Hid (bytesOf (ss ++ [s.extract i k]) = l.take (m + 1)) := Lib.hid (by
          have : bytesOf (ss ++ [s.extract i k]) = bytesOf ss ++ [(s.extract i k).data.toList] := by simp [bytesOf]
          rw [this, hX2, HE.out, HT.out])
        clear hd hdm htm hsz hnext hke hend hX2 henc hp hxs hr hpos
        generalize hXe : s.extract i k = X at *
        go_wp2_with (first
          | (go_at_call 51; refine (HEND.out _).mono ?_; rintro e w' ⟨rfl, rfl⟩)
          | (at_builtin; refine wpList_sapp strT rfl _ _ rfl _ ss rfl (hO.alloc _) _ X _ rfl (heap_alloc_new _ _) (by omega) ?_; intro v' w3 hO4 hb4))
        have hB4 : Below w.heap.size w w3 := (hB.alloc hB.size _).trans (hb4.mono (Nat.le_refl _))
        go_roundw
        case rel => exact ⟨k + 1, m + 1, _, by go_num, by omega, hO4, hB4, by omega, HSS, HN⟩
        case measure => simp [intOf]; omega
    · have hi1 : ¬ (i : Int) < (s.size : Int) := by omega
      have HL2 : Hid (bytesOf ss = l) := Lib.hid (by rw [HE.out, List.take_of_length_le (by omega)])
      have hsum : ((bytesOf ss).map List.length).sum ≤ 2000 := by rw [HL2.out]; omega
      have hj := rjoin_any _ ss wr hO.strL hssl hsum
      rw [HL2.out, ← HJ.out, Lib.mk_data] at hj
      have HJJ := Lib.hid hj
      clear hj hml hsi hsum
      have hr1 : (s.toList == s.toList) = true := by simp
      go_wp2_with (go_at_call 35; refine HJJ.out.mono ?_; rintro e w2 ⟨rfl, hb2⟩)
      go_ret2
      exact ⟨⟨_, ss, rfl, hO.strL.more hb2, HL2.out⟩, hB.trans (hb2.mono hB.size)⟩

set_option maxRecDepth 100000 in
set_option maxHeartbeats 4000000 in
theorem rwords_no (s : ByteArray) (w : World) (hs : s.size ≤ 1000) (h : ∀ l, s.data.toList ≠ joinL l) :
    Calls Tryd.prog 32 #[.string s] w fun e w' => e = .returned (.tuple #[.slice none 0 0, .int .i64 3]) ∧ Below w.heap.size w w' := by
  have HJ := Lib.hid h
  clear h
  go_enter Tryd.func32, Tryd.ntmps32
  go_wp2
  have hO0 : SOwn 9 w.heap.size w (.slice none 0 0) [] := SOwn.nil (Nat.le_refl _)
  go_loopw [4, 5] (fun v q wr => ∃ (i : Nat) (ss : List ByteArray), q = .int .i64 i ∧ i ≤ s.size + 1 ∧ SOwn 9 w.heap.size wr v ss ∧ Below w.heap.size w wr ∧ ss.length ≤ i ∧ ((bytesOf ss).map List.length).sum ≤ i)
    (fun _ q _ => s.size + 1 - (intOf q).toNat)
  case atStart => exact ⟨0, [], rfl, by omega, hO0, Below.refl _ _, by simp, by simp [bytesOf]⟩
  case round =>
    obtain ⟨i, ss, rfl, hi, hO, hB, hl1, hl2⟩ := hrel
    by_cases hlt : i < s.size
    · have hi1 : (i : Int) < (s.size : Int) := by omega
      have hend := fun w => end_any s i w (by omega) hlt
      have HEND := Lib.hid hend
      clear hend
      go_wp2_with (go_at_call 51; refine (HEND.out _).mono ?_; rintro e w' ⟨⟨k, hk1, hk2, rfl⟩, rfl⟩; refine Hid.out ?_)
      refine Lib.hid ?_
      have hxs : (s.extract i k).size = k - i := by simp [ByteArray.size_extract]; omega
      have hx4 : (s.extract i k).size ≤ 40000 := by omega
      have hbs : ∀ x : ByteArray, ((bytesOf (ss ++ [x])).map List.length).sum = ((bytesOf ss).map List.length).sum + x.size := by
        intro x
        simp only [bytesOf, List.map_append, List.map_cons, List.map_nil, List.sum_append, List.sum_cons, List.sum_nil, Array.length_toList, ByteArray.size_data, Nat.add_zero]
      have HBS := Lib.hid hbs
      clear hbs
      by_cases hki : i < k
      · have hxp : 0 < (s.extract i k).size := by omega
        by_cases hf : (s.extract i k)[0].toNat = 34
        · have tf : ((((s.extract i k)[0]).toNat : Int) == 34) = true := by simp only [beq_iff_eq]; omega
          clear hf
          by_cases hu : ∃ t, (s.extract i k).data.toList = quoteL t
          · obtain ⟨t, ht⟩ := hu
            have hU := fun w => runquote_yes (s.extract i k) t w hx4 ht
            have HU := Lib.hid hU
            have htl : t.length ≤ k - i := by
              have h1 := congrArg List.length ht
              have h2 := quoteL_ge t
              simp only [Array.length_toList, ByteArray.size_data] at h1
              omega
            have hsu : ((bytesOf (ss ++ [⟨t.toArray⟩])).map List.length).sum ≤ k := by
              rw [HBS.out]
              have : (⟨t.toArray⟩ : ByteArray).size = t.length := by simp [ByteArray.size]
              omega
            clear hU ht hxs
            generalize hXe : s.extract i k = X at *
            go_wp2_with (first
              | (go_at_call 27; refine (HU.out _).mono ?_; rintro e w2 ⟨rfl, hb2⟩; have hO2 := hO.more hb2; have hB2 := hB.trans (hb2.mono hB.size))
              | (at_builtin; refine wpList_sapp strT rfl _ _ rfl _ ss rfl (hO2.alloc _) _ ⟨t.toArray⟩ _ rfl (heap_alloc_new _ _) (by omega) ?_; intro v' w3 hO4 hb4))
            have hB4 : Below w.heap.size w w3 := (hB2.alloc hB2.size _).trans (hb4.mono (Nat.le_refl _))
            go_roundw
            case rel => exact ⟨k + 1, _, by go_num, by omega, hO4, hB4, by simp; omega, by omega⟩
            case measure => simp [intOf]; omega
          · have hU := fun w => runquote_no (s.extract i k) w hx4 (fun t ht => hu ⟨t, ht⟩)
            have HU := Lib.hid hU
            clear hU hu hxs
            generalize hXe : s.extract i k = X at *
            go_wp2_with (go_at_call 27; refine (HU.out _).mono ?_; rintro e w2 ⟨rfl, hb2⟩)
            go_ret2
            exact ⟨rfl, hB.trans (hb2.mono hB.size)⟩
        · have tf : ((((s.extract i k)[0]).toNat : Int) == 34) = false := by simp only [beq_eq_false_iff_ne]; omega
          have hsu : ((bytesOf (ss ++ [s.extract i k])).map List.length).sum ≤ k := by rw [HBS.out]; omega
          clear hf hxs
          generalize hXe : s.extract i k = X at *
          go_wp2_with (at_builtin; refine wpList_sapp strT rfl _ _ rfl _ ss rfl (hO.alloc _) _ X _ rfl (heap_alloc_new _ _) (by omega) ?_; intro v' w3 hO4 hb4)
          have hB4 : Below w.heap.size w w3 := (hB.alloc hB.size _).trans (hb4.mono (Nat.le_refl _))
          go_roundw
          case rel => exact ⟨k + 1, _, by go_num, by omega, hO4, hB4, by simp; omega, by omega⟩
          case measure => simp [intOf]; omega
      · have hsu : ((bytesOf (ss ++ [s.extract i k])).map List.length).sum ≤ k := by rw [HBS.out]; omega
        have hz : ¬ 0 < ((s.extract i k).size : Int) := by omega
        clear hxs
        generalize hXe : s.extract i k = X at *
        go_wp2_with (at_builtin; refine wpList_sapp strT rfl _ _ rfl _ ss rfl (hO.alloc _) _ X _ rfl (heap_alloc_new _ _) (by omega) ?_; intro v' w3 hO4 hb4)
        have hB4 : Below w.heap.size w w3 := (hB.alloc hB.size _).trans (hb4.mono (Nat.le_refl _))
        go_roundw
        case rel => exact ⟨k + 1, _, by go_num, by omega, hO4, hB4, by simp; omega, by omega⟩
        case measure => simp [intOf]; omega
    · have hi1 : ¬ (i : Int) < (s.size : Int) := by omega
      have hj := rjoin_any _ ss wr hO.strL (by omega) (by omega)
      have HJJ := Lib.hid hj
      clear hj
      have hr1 : (joinL (bytesOf ss) == s.toList) = false := by
        rw [beq_eq_false_iff_ne, ByteArray.toList_eq]
        intro e
        exact HJ.out _ e.symm
      go_wp2_with (go_at_call 35; refine HJJ.out.mono ?_; rintro e w2 ⟨rfl, hb2⟩)
      go_ret2
      exact ⟨rfl, hB.trans (hb2.mono hB.size)⟩
end Go.Proofs.YtcdpcbdmnmipcaaDoor
