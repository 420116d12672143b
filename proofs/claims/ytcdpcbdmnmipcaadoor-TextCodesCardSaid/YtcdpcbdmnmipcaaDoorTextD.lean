/- Walks of isPlain, word, Join. -/
import Derived.Test.YtcdpcbdmnmipcaaDoorTextC
import Derived.Test.YtcdpcbdmnmipcaaDoorBuild
namespace Go.Proofs.YtcdpcbdmnmipcaaDoor
open Go.RowKit
set_option linter.unusedSimpArgs false
set_option linter.unusedVariables false

/-- a rune that no plain word has -/
def mark (r : Nat) : Bool := decide (r ≤ 32 ∨ 126 < r ∨ r = 34)
theorem decode_big (s : ByteArray) (pos : Nat) (h : pos < s.size) (hb : 128 ≤ (s[pos]).toNat) : 128 ≤ (Utf8.decode s pos).1 := by
  have e : (s.get! (pos + 0)).toNat = (s[pos]).toNat := by
    rw [Nat.add_zero]
    show (s.data[pos]!).toNat = _
    rw [getElem!_pos s.data pos (by simpa using h)]
    rfl
  unfold Utf8.decode
  simp only [e]
  rw [if_neg (by omega)]
  split
  · split
    · simp only; omega
    · decide
  · split
    · split
      · rename_i h1; simp only [Bool.and_eq_true, decide_eq_true_eq] at h1; simp only; omega
      · decide
    · split
      · split
        · rename_i h1; simp only [Bool.and_eq_true, decide_eq_true_eq] at h1; simp only; omega
        · decide
      · decide
theorem idx_mark (s : ByteArray) : ∀ (f pos : Nat), s.size ≤ pos + f → decide (0 ≤ Lib.idxFuncFrom mark true s f pos) = !((s.data.toList.drop pos).all okB)
  | 0, pos, hf => by
    rw [List.drop_eq_nil_of_le (by simpa using hf)]
    simp [Lib.idxFuncFrom]
  | f + 1, pos, hf => by
    by_cases h : pos < s.size
    · rw [bytes_drop s pos h, List.all_cons]
      unfold Lib.idxFuncFrom
      rw [if_pos h]
      by_cases hb : (s[pos]).toNat < 128
      · rw [decode_ascii s pos h hb]
        simp only
        cases ho : okB s[pos]
        · have hm : mark (s[pos]).toNat = true := by simp [okB] at ho; simp [mark]; omega
          rw [if_pos hm]
          simp
        · have hm : mark (s[pos]).toNat = false := by simp [okB] at ho; simp [mark]; omega
          rw [hm, if_neg (by simp), idx_mark s f (pos + 1) (by omega)]
          rfl
      · have hd := decode_big s pos h (by omega)
        have hm : mark (Utf8.decode s pos).1 = true := by simp [mark]; omega
        have ho : okB s[pos] = false := by simp [okB]; omega
        rw [hm, if_pos rfl, ho]
        simp
    · rw [Lib.idxFuncFrom_end _ _ _ _ _ h, List.drop_eq_nil_of_le (by simpa using h)]
      simp

set_option maxHeartbeats 400000 in
theorem needsMarks_any (r : Nat) (w : World) : Calls Tryd.prog 64 #[.int .i32 r] w fun e w' => e = .returned (.bool (mark r)) ∧ w = w' := by
  by_cases h1 : (r : Int) ≤ 32
  · go_enter Tryd.func64, Tryd.ntmps64
    go_wp2
    go_ret
    exact ⟨ret_bool (by simp [mark]; omega), rfl⟩
  · by_cases h2 : 126 < (r : Int)
    · go_enter Tryd.func64, Tryd.ntmps64
      go_wp2
      go_ret
      exact ⟨ret_bool (by simp [mark]; omega), rfl⟩
    · by_cases h3 : r = 34
      · have h3' : ((r : Int) == 34) = true := by simp; omega
        have H3 := Lib.hid h3
        clear h3
        go_enter Tryd.func64, Tryd.ntmps64
        go_wp2
        go_ret
        exact ⟨ret_bool (by simp [mark, H3.out]), rfl⟩
      · have h3' : ((r : Int) == 34) = false := by simp; omega
        have H3 := Lib.hid h3
        clear h3
        go_enter Tryd.func64, Tryd.ntmps64
        go_wp2
        go_ret
        exact ⟨ret_bool (by have := H3.out; simp [mark]; omega), rfl⟩
theorem markAt (w : World) : PredAt Tryd.prog 64 #[] encR mark w := fun W x _ =>
  (needsMarks_any x W).mono fun e w' ⟨h1, h2⟩ => ⟨h1, 0, h2.symm⟩
theorem containsFunc_any (s : ByteArray) (w : World) :
    Calls Tryd.prog 63 #[.string s, .func (.func 64) #[] #[]] w fun e w' => e = .returned (.bool (!(s.data.toList.all okB))) ∧ Below w.heap.size w w' := by
  refine (Tryd.strings_ContainsFunc 64 #[] (enters_of Tryd.func64 (by kernel_rfl) rfl) mark s w (markAt w)).mono ?_
  rintro e w' ⟨rfl, hb⟩
  exact ⟨ret_bool (idx_mark s s.size 0 (by omega)), hb⟩

set_option maxHeartbeats 400000 in
theorem isPlain_any (s : ByteArray) (w : World) :
    Calls Tryd.prog 53 #[.string s] w fun e w' => e = .returned (.bool (plainL s.data.toList)) ∧ Below w.heap.size w w' := by
  by_cases h0 : 0 < s.size
  · have t1 := isEmpty_no s h0
    have HL : Hid (plainL s.data.toList = s.data.toList.all okB) := Lib.hid (by
      rw [plainL, ← ByteArray.toList_eq, t1]; rfl)
    cases ha : s.data.toList.all okB
    · have HC := containsFunc_any s w
      rw [ha] at HC
      have HH := Lib.hid HC
      clear HC
      have HA := Lib.hid ha
      clear ha
      go_enter Tryd.func53, Tryd.ntmps53
      go_wp2_with (go_at_call 63; refine HH.out.mono ?_; rintro e w1 ⟨rfl, hb⟩)
      go_ret
      exact ⟨ret_bool (by rw [HL.out, HA.out]), hb⟩
    · have HC := containsFunc_any s w
      rw [ha] at HC
      have HH := Lib.hid HC
      clear HC
      have HA := Lib.hid ha
      clear ha
      go_enter Tryd.func53, Tryd.ntmps53
      go_wp2_with (go_at_call 63; refine HH.out.mono ?_; rintro e w1 ⟨rfl, hb⟩)
      go_ret
      exact ⟨ret_bool (by rw [HL.out, HA.out]), hb⟩
  · have t1 := isEmpty_yes s (by omega)
    have HL : Hid (plainL s.data.toList = false) := Lib.hid (by
      rw [plainL, ← ByteArray.toList_eq, t1]; rfl)
    go_enter Tryd.func53, Tryd.ntmps53
    go_wp2
    go_ret
    exact ⟨ret_bool (by rw [HL.out]), Below.refl _ _⟩

theorem isPlain_eq (s : ByteArray) (b : Bool) (w : World) (h : plainL s.data.toList = b) :
    Calls Tryd.prog 53 #[.string s] w fun e w' => e = .returned (.bool b) ∧ Below w.heap.size w w' := by
  subst h; exact isPlain_any s w

def WordPost (s : ByteArray) (e : Ending) : Prop :=
  (∃ t, s.data.toList = encW t ∧ e = .returned (.tuple #[.string ⟨t.toArray⟩, .bool true])) ∨
  ((∀ t, s.data.toList ≠ encW t) ∧ e = .returned (.tuple #[.string ⟨#[]⟩, .bool false]))
theorem unquote_yes (s : ByteArray) (t : List UInt8) (w : World) (hs : s.size ≤ 40000) (h : s.data.toList = quoteL t) :
    Calls Tryd.prog 26 #[.string s] w fun e w' => e = .returned (.tuple #[.string ⟨t.toArray⟩, .int .i64 0]) ∧ Below w.heap.size w w' := by
  refine (unquote_any s w hs).mono ?_
  rintro e w' ⟨⟨t', h', rfl⟩ | ⟨h', _⟩, hb⟩
  · rw [quoteL_inj t t' (h'.symm.trans h)]
    exact ⟨rfl, hb⟩
  · exact absurd h (h' t)
theorem unquote_no (s : ByteArray) (w : World) (hs : s.size ≤ 40000) (h : ∀ t, s.data.toList ≠ quoteL t) :
    Calls Tryd.prog 26 #[.string s] w fun e w' => e = .returned (.tuple #[.string ⟨#[]⟩, .int .i64 3]) ∧ Below w.heap.size w w' := by
  refine (unquote_any s w hs).mono ?_
  rintro e w' ⟨⟨t', h', _⟩ | ⟨_, rfl⟩, hb⟩
  · exact absurd h' (h t')
  · exact ⟨rfl, hb⟩
theorem encW_plain (l : List UInt8) (h : plainL l = true) : encW l = l := by rw [encW, if_pos h]
theorem encW_quote (l : List UInt8) (h : plainL l = false) : encW l = quoteL l := by rw [encW, if_neg (by simp [h])]
theorem encW_none (s : List UInt8) (h : plainL s = false) (hq : ∀ t, plainL t = false → s ≠ quoteL t) : ∀ t, s ≠ encW t := by
  intro t ht
  cases hp : plainL t
  · rw [encW_quote t hp] at ht; exact hq t hp ht
  · rw [encW_plain t hp] at ht; rw [ht, hp] at h; cases h

set_option maxHeartbeats 400000 in
theorem word_any (s : ByteArray) (w : World) (hs : s.size ≤ 40000) :
    Calls Tryd.prog 50 #[.string s] w fun e w' => WordPost s e ∧ Below w.heap.size w w' := by
  cases hp : plainL s.data.toList
  · have HP := Lib.hid hp
    by_cases hq : ∃ t, s.data.toList = quoteL t
    · obtain ⟨t, ht⟩ := hq
      have HT := Lib.hid ht
      clear ht
      cases hpt : plainL t
      · have HT2 : Hid (plainL (⟨t.toArray⟩ : ByteArray).data.toList = false) := Lib.hid (by simpa using hpt)
        clear hp
        go_enter Tryd.func50, Tryd.ntmps50
        go_wp2_with (go_at_call 53; refine (isPlain_eq _ _ _ HP.out).mono ?_; rintro e w1 ⟨rfl, hb1⟩)
        go_wp2_with (go_at_call 26; refine (unquote_yes _ t _ hs HT.out).mono ?_; rintro e w2 ⟨rfl, hb2⟩)
        go_wp2_with (go_at_call 53; refine (isPlain_eq _ _ _ HT2.out).mono ?_; rintro e w3 ⟨rfl, hb3⟩)
        go_ret2
        exact ⟨.inl ⟨t, by rw [HT.out, encW_quote t hpt], rfl⟩, (hb1.trans (hb2.mono hb1.size)).trans (hb3.mono (Nat.le_trans hb1.size hb2.size))⟩
      · have HN : Hid (∀ t', s.data.toList ≠ encW t') := Lib.hid (encW_none _ hp fun t' h' e => by
          have := quoteL_inj t t' (e.symm.trans HT.out)
          rw [this, hpt] at h'; cases h')
        have HT2 : Hid (plainL (⟨t.toArray⟩ : ByteArray).data.toList = true) := Lib.hid (by simpa using hpt)
        clear hp
        go_enter Tryd.func50, Tryd.ntmps50
        go_wp2_with (go_at_call 53; refine (isPlain_eq _ _ _ HP.out).mono ?_; rintro e w1 ⟨rfl, hb1⟩)
        go_wp2_with (go_at_call 26; refine (unquote_yes _ t _ hs HT.out).mono ?_; rintro e w2 ⟨rfl, hb2⟩)
        go_wp2_with (go_at_call 53; refine (isPlain_eq _ _ _ HT2.out).mono ?_; rintro e w3 ⟨rfl, hb3⟩)
        go_ret2
        exact ⟨.inr ⟨HN.out, rfl⟩, (hb1.trans (hb2.mono hb1.size)).trans (hb3.mono (Nat.le_trans hb1.size hb2.size))⟩
    · have HQ : Hid (∀ t, s.data.toList ≠ quoteL t) := Lib.hid fun t ht => hq ⟨t, ht⟩
      have HN : Hid (∀ t', s.data.toList ≠ encW t') := Lib.hid (encW_none _ hp fun t' _ e => HQ.out t' e)
      clear hq hp
      go_enter Tryd.func50, Tryd.ntmps50
      go_wp2_with (go_at_call 53; refine (isPlain_eq _ _ _ HP.out).mono ?_; rintro e w1 ⟨rfl, hb1⟩)
      go_wp2_with (go_at_call 26; refine (unquote_no _ _ hs HQ.out).mono ?_; rintro e w2 ⟨rfl, hb2⟩)
      go_ret2
      exact ⟨.inr ⟨HN.out, rfl⟩, hb1.trans (hb2.mono hb1.size)⟩
  · have HP := Lib.hid hp
    clear hp
    go_enter Tryd.func50, Tryd.ntmps50
    go_wp2_with (go_at_call 53; refine (isPlain_eq _ _ _ HP.out).mono ?_; rintro e w1 ⟨rfl, hb1⟩)
    go_ret2
    exact ⟨.inl ⟨s.data.toList, by rw [encW_plain _ HP.out], by rw [Lib.mk_data]; rfl⟩, hb1⟩

theorem strCells_eq (s : ByteArray) : Lib.strCells s = Lib.byteCells s.data.toList := by
  simp [Lib.strCells, Lib.byteCells]
def bytesOf (ss : List ByteArray) : List (List UInt8) := ss.map fun s => s.data.toList

set_option maxRecDepth 100000 in
set_option maxHeartbeats 2000000 in
theorem join_any (v : Value) (ss : List ByteArray) (w : World) (hv : StrL w v ss) (hn : ss.length ≤ 2000) (hsum : ((bytesOf ss).map List.length).sum ≤ 2000) :
    Calls Tryd.prog 34 #[v] w fun e w' => e = .returned (.string ⟨(joinL (bytesOf ss)).toArray⟩) ∧ Below w.heap.size w w' := by
  have hv0 := hv
  obtain ⟨A, c, rfl, hcell⟩ := hv
  go_enter Tryd.func34, Tryd.ntmps34
  go_wp2
  have hI0 := Lib.fresh_isBuilder 59 5 w
  have HB0 : Below w.heap.size w (w.alloc (.cells #[.pointer none, .slice none 0 0] 59)) := (Below.refl _ _).alloc (Nat.le_refl _) _
  go_loopw [8] (fun i wr => ∃ k : Nat, k ≤ ss.length ∧ i = .int .i64 k ∧ Lib.IsBuilder 59 5 w.heap.size w.heap.size (Lib.byteCells (joinL ((bytesOf ss).take k))) wr ∧ Below w.heap.size w wr) (fun i _ => ss.length - (intOf i).toNat)
  case atStart => exact ⟨0, Nat.zero_le _, rfl, hI0, HB0⟩
  case round =>
    obtain ⟨k, hk, rfl, hI, hB⟩ := hrel
    have hlen : (Lib.byteCells (joinL ((bytesOf ss).take k))).length ≤ 20000 := by
      have h1 := joinL_le ((bytesOf ss).take k)
      have h2 := sum_take_le (bytesOf ss) k
      have h3 : ((bytesOf ss).take k).length ≤ 2000 := by simp [bytesOf]; omega
      rw [Lib.byteCells_length]
      omega
    by_cases hlt : k < ss.length
    · obtain ⟨b, o, rfl, hb, hc⟩ : ∃ b o, A = some ⟨b, o, none⟩ ∧ b < w.heap.size ∧ ∀ i (h : i < ss.length), w.cell? ⟨b, o + i, none⟩ = some (.string ss[i]) := by
        rcases hcell with h | h
        · rw [h] at hlt; simp at hlt
        · exact h
      have hck : wr.cell? ⟨b, o + k, none⟩ = some (.string ss[k]) := (hB.cell (p := ⟨b, o + k, none⟩) hb).trans (hc k hlt)
      clear hc
      have hsk : (ss[k]).data.toList.length ≤ 2000 := Nat.le_trans (len_le_sum (bytesOf ss) _ (by simp [bytesOf]; exact ⟨ss[k], List.getElem_mem hlt, rfl⟩)) hsum
      have hsq : (ss[k]).size ≤ 40000 := by have : (ss[k]).data.toList.length = (ss[k]).size := by simp
                                            omega
      have htk : (bytesOf ss).take (k + 1) = (bytesOf ss).take k ++ [(ss[k]).data.toList] := by
        rw [List.take_succ_eq_append_getElem (by simpa [bytesOf] using hlt)]; simp [bytesOf]
      have hsk2 : (ss[k]).size ≤ 2000 := by have : (ss[k]).data.toList.length = (ss[k]).size := by simp
                                            omega
      clear hsk hcell hsum
      have hq2 : (Lib.byteCells (joinL ((bytesOf ss).take k))).length + 1 + (⟨(quoteL (ss[k]).data.toList).toArray⟩ : ByteArray).size ≤ 140737488355328 := by
        have h1 := flatMap_qb_le (ss[k]).data.toList
        have h2 : (⟨(quoteL (ss[k]).data.toList).toArray⟩ : ByteArray).size = (quoteL (ss[k]).data.toList).length := by simp [ByteArray.size]
        rw [h2]
        simp only [quoteL, List.length_cons, List.length_append, List.length_nil]
        have h3 : (ss[k]).data.toList.length = (ss[k]).size := by simp
        omega
      have hq3 : (Lib.byteCells (joinL ((bytesOf ss).take k))).length + (⟨(quoteL (ss[k]).data.toList).toArray⟩ : ByteArray).size ≤ 140737488355328 := by omega
      by_cases hk0 : k = 0
      · have HT := Lib.hid htk
        have h0 : ¬ 0 < (k : Int) := by omega
        have hz : joinL ((bytesOf ss).take k) = [] := by rw [hk0]; rfl
        have HZ := Lib.hid hz
        have HN : Hid ((bytesOf ss).take k = []) := Lib.hid (by rw [hk0]; rfl)
        clear htk hk0 hz
        cases hp : plainL (ss[k]).data.toList
        · have HP := Lib.hid hp
          clear hp
          have HJ : Hid (joinL ((bytesOf ss).take (k + 1)) = joinL ((bytesOf ss).take k) ++ quoteL (ss[k]).data.toList) := Lib.hid (by rw [HT.out, HN.out]; simp [joinL, encW_quote _ HP.out])
          clear HT HN
          go_wp2_with (go_at_call 53; refine (isPlain_eq _ _ _ HP.out).mono ?_; rintro e w2 ⟨rfl, hb2⟩; have hI2 := builder_more hI hb2; have hB2 := hB.trans (hb2.mono hB.size); refine Hid.out ?_)
          refine Lib.hid ?_
          go_wp2_with (go_at_call 28; refine (quote_any _ _ hsq).mono ?_; rintro e w3 ⟨rfl, hb3⟩; have hI3 := builder_more hI2 hb3; have hB3 := hB2.trans (hb3.mono hB2.size); refine Hid.out ?_)
          refine Lib.hid ?_
          go_wp2_with (go_at_call 54; refine (builder_string w.heap.size w.heap.size _ _ _ hI3 (by first | omega | exact hq3 | (simp only [List.length_append, List.length_cons, List.length_nil]; omega) | (simp only [List.length_append, List.length_cons, List.length_nil]; exact hq2)) hB3.size).mono ?_; rintro e w4 ⟨rfl, hI4', hb4⟩; have hI4 := builder_more (w' := w4) (.inr hI4') (Below.refl _ _); have hB4 := hB3.trans hb4)
          go_roundw
          case rel => exact ⟨k + 1, by omega, by go_num, by rw [HJ.out]; simpa [strCells_eq, Lib.byteCells] using hI4, hB4⟩
          case measure => simp [intOf]; omega
        · have HP := Lib.hid hp
          clear hp
          have HJ : Hid (joinL ((bytesOf ss).take (k + 1)) = joinL ((bytesOf ss).take k) ++ (ss[k]).data.toList) := Lib.hid (by rw [HT.out, HN.out]; simp [joinL, encW_plain _ HP.out])
          clear HT HN
          go_wp2_with (go_at_call 53; refine (isPlain_eq _ _ _ HP.out).mono ?_; rintro e w2 ⟨rfl, hb2⟩; have hI2 := builder_more hI hb2; have hB2 := hB.trans (hb2.mono hB.size); refine Hid.out ?_)
          refine Lib.hid ?_
          go_wp2_with (go_at_call 54; refine (builder_string w.heap.size w.heap.size _ _ _ hI2 (by omega) hB2.size).mono ?_; rintro e w4 ⟨rfl, hI4', hb4⟩; have hI4 := builder_more (w' := w4) (.inr hI4') (Below.refl _ _); have hB4 := hB2.trans hb4)
          go_roundw
          case rel => exact ⟨k + 1, by omega, by go_num, by rw [HJ.out]; simpa [strCells_eq, Lib.byteCells] using hI4, hB4⟩
          case measure => simp [intOf]; omega
      · have HT := Lib.hid htk
        have h0 : 0 < (k : Int) := by omega
        have HN : Hid ((bytesOf ss).take k ≠ []) := Lib.hid (by intro e; have h1 : ((bytesOf ss).take k).length = k := (by simp [bytesOf]; omega); rw [e] at h1; exact hk0 h1.symm)
        clear htk hk0
        cases hp : plainL (ss[k]).data.toList
        · have HP := Lib.hid hp
          clear hp
          have HJ : Hid (joinL ((bytesOf ss).take (k + 1)) = joinL ((bytesOf ss).take k) ++ [32] ++ quoteL (ss[k]).data.toList) := Lib.hid (by rw [HT.out, joinL_snoc _ _ HN.out, encW_quote _ HP.out]; simp)
          clear HT HN
          go_wp2_with (go_at_call 52; refine (builder_byte w.heap.size w.heap.size _ 32 _ hI (by omega) hB.size).mono ?_; rintro e w1 ⟨rfl, hI1', hb1⟩; have hI1 := builder_more (w' := w1) (.inr hI1') (Below.refl _ _); have hB1 := hB.trans hb1; refine Hid.out ?_)
          refine Lib.hid ?_
          go_wp2_with (go_at_call 53; refine (isPlain_eq _ _ _ HP.out).mono ?_; rintro e w2 ⟨rfl, hb2⟩; have hI2 := builder_more hI1 hb2; have hB2 := hB1.trans (hb2.mono hB1.size); refine Hid.out ?_)
          refine Lib.hid ?_
          go_wp2_with (go_at_call 28; refine (quote_any _ _ hsq).mono ?_; rintro e w3 ⟨rfl, hb3⟩; have hI3 := builder_more hI2 hb3; have hB3 := hB2.trans (hb3.mono hB2.size); refine Hid.out ?_)
          refine Lib.hid ?_
          go_wp2_with (go_at_call 54; refine (builder_string w.heap.size w.heap.size _ _ _ hI3 (by simp only [List.length_append, List.length_cons, List.length_nil]; exact hq2) hB3.size).mono ?_; rintro e w4 ⟨rfl, hI4', hb4⟩; have hI4 := builder_more (w' := w4) (.inr hI4') (Below.refl _ _); have hB4 := hB3.trans hb4)
          go_roundw
          case rel => exact ⟨k + 1, by omega, by go_num, by rw [HJ.out]; simpa [strCells_eq, Lib.byteCells] using hI4, hB4⟩
          case measure => simp [intOf]; omega
        · have HP := Lib.hid hp
          clear hp
          have HJ : Hid (joinL ((bytesOf ss).take (k + 1)) = joinL ((bytesOf ss).take k) ++ [32] ++ (ss[k]).data.toList) := Lib.hid (by rw [HT.out, joinL_snoc _ _ HN.out, encW_plain _ HP.out]; simp)
          clear HT HN
          go_wp2_with (go_at_call 52; refine (builder_byte w.heap.size w.heap.size _ 32 _ hI (by omega) hB.size).mono ?_; rintro e w1 ⟨rfl, hI1', hb1⟩; have hI1 := builder_more (w' := w1) (.inr hI1') (Below.refl _ _); have hB1 := hB.trans hb1; refine Hid.out ?_)
          refine Lib.hid ?_
          go_wp2_with (go_at_call 53; refine (isPlain_eq _ _ _ HP.out).mono ?_; rintro e w2 ⟨rfl, hb2⟩; have hI2 := builder_more hI1 hb2; have hB2 := hB1.trans (hb2.mono hB1.size); refine Hid.out ?_)
          refine Lib.hid ?_
          go_wp2_with (go_at_call 54; refine (builder_string w.heap.size w.heap.size _ _ _ hI2 (by simp only [List.length_append, List.length_cons, List.length_nil]; omega) hB2.size).mono ?_; rintro e w4 ⟨rfl, hI4', hb4⟩; have hI4 := builder_more (w' := w4) (.inr hI4') (Below.refl _ _); have hB4 := hB2.trans hb4)
          go_roundw
          case rel => exact ⟨k + 1, by omega, by go_num, by rw [HJ.out]; simpa [strCells_eq, Lib.byteCells] using hI4, hB4⟩
          case measure => simp [intOf]; omega
    · have HK : Hid ((bytesOf ss).take k = bytesOf ss) := Lib.hid (List.take_of_length_le (by simp [bytesOf]; omega))
      go_wp2_with (go_at_call 55; refine (Tryd.Builder_String_any w.heap.size w.heap.size _ _ hI hB.size).mono ?_; rintro e w4 ⟨rfl, hb4⟩)
      go_ret
      exact ⟨by rw [HK.out]; rfl, hB.trans hb4⟩
end Go.Proofs.YtcdpcbdmnmipcaaDoor
