/- The walk of the law on two lists. -/
import Derived.Test.YtcdpcbdmnmipcaaDoorLawsB
namespace Go.Proofs.YtcdpcbdmnmipcaaDoor
open Go.RowKit
set_option linter.unusedSimpArgs false
set_option linter.unusedVariables false

section
variable {P : Program} {t e : TypeId}
/-- 'append(v, new...)', new a slice that lies in memory -/
theorem wpList_sapps (T : StrT P t e) {B : Nat} {w : World} {ops : Array Oper} {rest : List Oper} {o : Oper} {a : Act} {Q : Exit → Act → World → Prop} (hgd : o.guard = none) (s x : Operand)
    (ho : o.op = .call { callee := .builtin .append, args := #[s, x], argTypes := #[t, t] }) (v : Value) (ss : List ByteArray) (hs : a.eval s = v) (h0 : SOwn e B w v ss)
    (b off : Nat) (new : List ByteArray) (n c : Nat) (hx : a.eval x = .slice (some ⟨b, off, none⟩) n c) (hn : n = new.length) (hc : ∀ i (h : i < new.length), w.cell? ⟨b, off + i, none⟩ = some (.string new[i]))
    (hpos : 0 < new.length) (hlim : ss.length + new.length ≤ 1000000000)
    (h : ∀ v' w', SOwn e B w' v' (ss ++ new) → Below B w w' → wpList P ops Q rest (a.put o.dst v') w') : wpList P ops Q (o :: rest) a w := by
  subst hn
  obtain ⟨i, hi, hz, hz1, hz2⟩ := info_parts T.info
  refine wpList_append_lies w hgd s x t ho B e i (.string ⟨#[]⟩) 1 16 T.ht hi hz hz1 hz2 rfl (by omega) v ss.length (ss.map .string) hs h0.own ⟨b, off, none⟩ new.length c (new.map .string) hx
    (by simp) ?_ (by intro u hu; simp at hu; obtain ⟨_, _, rfl⟩ := hu; rfl) hpos (by unfold maxLen; omega) (by omega) h0.base w.heap.size rfl ?_
  · intro j u hu
    have hj : j < new.length := by
      rcases Nat.lt_or_ge j new.length with h' | h'
      · exact h'
      · rw [List.getElem?_eq_none (by simpa using h')] at hu; cases hu
    rw [List.getElem?_map, List.getElem?_eq_getElem hj] at hu
    simp at hu
    subst hu
    have hadd : (⟨b, off, none⟩ : Addr).add j = ⟨b, off + j, none⟩ := by unfold Addr.add; split <;> simp_all
    rw [hadd]
    exact hc j hj
  · intro g cap w' hown hgrow _ _
    refine h _ _ ⟨?_, Nat.le_trans h0.base hgrow.size⟩ ((Below.refl B w).grown hgrow h0.base (own_below' h0.own))
    rw [List.map_append, List.length_append]
    exact hown
end
theorem joinL_append (a b : List (List UInt8)) (ha : a ≠ []) (hb : b ≠ []) : joinL (a ++ b) = joinL a ++ 32 :: joinL b := by
  cases a with
  | nil => exact absurd rfl ha
  | cons x r =>
    cases b with
    | nil => exact absurd rfl hb
    | cons y q => simp [joinL]
theorem bytesOf_append (a b : List ByteArray) : bytesOf (a ++ b) = bytesOf a ++ bytesOf b := by simp [bytesOf]
theorem strL_at {w : World} {A : Option Addr} {n c : Nat} {ss : List ByteArray} (h : StrL w (.slice A n c) ss) (hp : 0 < ss.length) :
    ∃ b o, A = some ⟨b, o, none⟩ ∧ b < w.heap.size ∧ ∀ i (h : i < ss.length), w.cell? ⟨b, o + i, none⟩ = some (.string ss[i]) := by
  obtain ⟨A', c', hv, h⟩ := h
  injection hv with h1 h2 h3
  subst h1
  rcases h with h | h
  · rw [h] at hp; simp at hp
  · exact h
theorem SOwn.made {e : TypeId} (w : World) : SOwn e w.heap.size (w.alloc (Obj.cells #[] e)) (.slice (some ⟨w.heap.size, 0, none⟩) 0 0) [] :=
  ⟨⟨rfl, .inr ⟨w.heap.size, 0, #[], rfl, Nat.le_refl _, heap_alloc_new _ _, Nat.le_refl _, Nat.zero_le _, rfl, rfl⟩⟩, ((Below.refl w.heap.size w).alloc (Nat.le_refl _) _).size⟩

set_option maxRecDepth 100000 in
set_option maxHeartbeats 400000 in
theorem textParts_walk (A B : Option Addr) (c d : Nat) (ss tt : List ByteArray) (w : World) (hv : StrL w (.slice A ss.length c) ss) (hu : StrL w (.slice B tt.length d) tt)
    (hbig : ss.length ≤ 140737488355328) (hsz : ∀ s ∈ ss, s.size ≤ 140737488355328) (hbig2 : tt.length ≤ 140737488355328) (hsz2 : ∀ s ∈ tt, s.size ≤ 140737488355328) (hE : Env w) :
    Calls Tryd.prog 8 #[.slice A ss.length c, .slice B tt.length d] w fun e w' => e = .returned (.bool true) ∧ Below w.heap.size w w' := by
  have HL := Lib.hid (long_any _ ss 300 w hv hbig hsz (by omega) (by omega))
  have HM := Lib.hid (long_any _ tt 300 w hu hbig2 hsz2 (by omega) (by omega))
  clear hbig hsz hbig2 hsz2
  cases hl : longB ss 300
  case true =>
    rw [hl] at HL
    clear hl
    go_enter Tryd.func8, Tryd.ntmps8
    go_wp2_with (first
      | (go_at_call 30; refine HL.out.mono ?_; rintro e w' ⟨rfl, rfl⟩)
      | (go_at_call 9; refine (awake_any _ hE).mono ?_; rintro e w1 ⟨rfl, hb⟩))
    go_ret
    exact ⟨rfl, hb⟩
  cases hm : longB tt 300
  case true =>
    rw [hl] at HL
    rw [hm] at HM
    clear hl hm
    go_enter Tryd.func8, Tryd.ntmps8
    go_wp2_with (first
      | (go_at_call 30; (with_reducible refine HL.out.mono ?_); rintro e w' ⟨rfl, rfl⟩)
      | (go_at_call 30; (with_reducible refine HM.out.mono ?_); rintro e w' ⟨rfl, rfl⟩)
      | (go_at_call 9; refine (awake_any _ hE).mono ?_; rintro e w1 ⟨rfl, hb⟩))
    go_ret
    exact ⟨rfl, hb⟩
  have hl1 := long_no ss 300 hl
  have hm1 := long_no tt 300 hm
  rw [hl] at HL
  rw [hm] at HM
  by_cases hs0 : ss.length = 0
  case pos =>
    have t1 : ((ss.length : Int) == 0) = true := by rw [beq_iff_eq]; omega
    clear hs0 hl hm hl1 hm1
    go_enter Tryd.func8, Tryd.ntmps8
    go_wp2_with (first
      | (go_at_call 30; (with_reducible refine HL.out.mono ?_); rintro e w' ⟨rfl, rfl⟩)
      | (go_at_call 30; (with_reducible refine HM.out.mono ?_); rintro e w' ⟨rfl, rfl⟩)
      | (go_at_call 9; refine (awake_any _ hE).mono ?_; rintro e w1 ⟨rfl, hb⟩))
    go_ret
    exact ⟨rfl, hb⟩
  have t1 : ((ss.length : Int) == 0) = false := by rw [beq_eq_false_iff_ne]; omega
  by_cases ht0 : tt.length = 0
  case pos =>
    have t2 : ((tt.length : Int) == 0) = true := by rw [beq_iff_eq]; omega
    clear hs0 ht0 hl hm hl1 hm1
    go_enter Tryd.func8, Tryd.ntmps8
    go_wp2_with (first
      | (go_at_call 30; (with_reducible refine HL.out.mono ?_); rintro e w' ⟨rfl, rfl⟩)
      | (go_at_call 30; (with_reducible refine HM.out.mono ?_); rintro e w' ⟨rfl, rfl⟩)
      | (go_at_call 9; refine (awake_any _ hE).mono ?_; rintro e w1 ⟨rfl, hb⟩))
    go_ret
    exact ⟨rfl, hb⟩
  have t2 : ((tt.length : Int) == 0) = false := by rw [beq_eq_false_iff_ne]; omega
  have hsp : 0 < ss.length := by omega
  have htp : 0 < tt.length := by omega
  obtain ⟨b1, o1, rfl, hb1, hc1⟩ := strL_at hv hsp
  obtain ⟨b2, o2, rfl, hb2, hc2⟩ := strL_at hu htp
  have HC1 := Lib.hid hc1
  have HC2 := Lib.hid hc2
  have s1 := bytesOf_len ss
  have s2 := bytesOf_len tt
  have HS1 : Hid (ss.length ≤ 300 ∧ ((bytesOf ss).map List.length).sum ≤ 300) := Lib.hid (by unfold sumL at hl1; omega)
  have HS2 : Hid (tt.length ≤ 300 ∧ ((bytesOf tt).map List.length).sum ≤ 300) := Lib.hid (by unfold sumL at hm1; omega)
  have hn1 : bytesOf ss ≠ [] := fun h => by rw [h] at s1; simp at s1; omega
  have hn2 : bytesOf tt ≠ [] := fun h => by rw [h] at s2; simp at s2; omega
  have hz1 := joinL_le (bytesOf ss)
  have hz2 := joinL_le (bytesOf tt)
  obtain ⟨X, hX⟩ : ∃ X : ByteArray, X = ⟨(joinL (bytesOf ss)).toArray⟩ := ⟨_, rfl⟩
  obtain ⟨Y, hY⟩ : ∃ Y : ByteArray, Y = ⟨(joinL (bytesOf tt)).toArray⟩ := ⟨_, rfl⟩
  have q1 : X.size ≤ 2100 := by rw [hX, size_mk]; have := HS1.out; omega
  have q2 : Y.size ≤ 2100 := by rw [hY, size_mk]; have := HS2.out; omega
  have hlist : (X ++ ⟨#[32]⟩ ++ Y).data.toList = joinL (bytesOf (ss ++ tt)) := by
    rw [bytesOf_append, joinL_append _ _ hn1 hn2, hX, hY]
    simp
  obtain ⟨Z, hZ⟩ : ∃ Z : ByteArray, Z = X ++ ⟨#[32]⟩ ++ Y := ⟨_, rfl⟩
  have q3 : Z.size ≤ 5000 := by rw [hZ]; simp only [ByteArray.size_append]; show X.size + 1 + Y.size ≤ 5000; omega
  rw [← hZ] at hlist
  have hZj : (⟨(joinL (bytesOf (ss ++ tt))).toArray⟩ : ByteArray) = Z := by rw [← hlist]
  have HWO := Lib.hid (fun w => words_yes Z (bytesOf (ss ++ tt)) w (by omega) hlist)
  have HJ1 : Hid (∀ w', StrL w' (.slice (some ⟨b1, o1, none⟩) ss.length c) ss → Calls Tryd.prog 34 #[.slice (some ⟨b1, o1, none⟩) ss.length c] w' fun e w2 => e = .returned (.string X) ∧ Below w'.heap.size w' w2) := Lib.hid (fun w' hv => by
    rw [hX]; exact join_any _ ss _ hv (by have := HS1.out; omega) (by have := HS1.out; omega))
  have HJ2 : Hid (∀ w', StrL w' (.slice (some ⟨b2, o2, none⟩) tt.length d) tt → Calls Tryd.prog 34 #[.slice (some ⟨b2, o2, none⟩) tt.length d] w' fun e w2 => e = .returned (.string Y) ∧ Below w'.heap.size w' w2) := Lib.hid (fun w' hv => by
    rw [hY]; exact join_any _ tt _ hv (by have := HS2.out; omega) (by have := HS2.out; omega))
  have hbl : (bytesOf (ss ++ tt)).length ≤ 2000 := by rw [bytesOf_len, List.length_append]; have := HS1.out; have := HS2.out; omega
  have HJ3 : Hid (∀ v w', StrL w' v (ss ++ tt) → Calls Tryd.prog 34 #[v] w' fun e w2 => e = .returned (.string Z) ∧ Below w'.heap.size w' w2) := Lib.hid (fun v w' hv => by
    rw [← hZj]
    exact join_any _ (ss ++ tt) _ hv (by rw [List.length_append]; have := HS1.out; have := HS2.out; omega) (by rw [bytesOf_append, List.map_append, List.sum_append]; have := HS1.out; have := HS2.out; omega))
  have HBL := Lib.hid hbl
  have hadd1 := fun W => run_string_add_sum (P := Tryd.prog) (w := W) X (⟨#[32]⟩ : ByteArray) (by show X.size + 1 ≤ _; omega)
  have hadd2 := fun W => run_string_add_sum (P := Tryd.prog) (w := W) (X ++ ⟨#[32]⟩) Y (by rw [ByteArray.size_append]; show X.size + 1 + Y.size ≤ _; omega)
  rw [← hZ] at hadd2
  clear hX hY hZ hZj hlist hbl hn1 hn2 hz1 hz2 s1 s2 hl1 hm1
  clear q1 q2 q3
  clear hs0 ht0 hl hm hc1 hc2
  go_enter Tryd.func8, Tryd.ntmps8
  go_wp2_with (first
    | (go_at_call 30; (with_reducible refine HL.out.mono ?_); rintro e w' ⟨rfl, rfl⟩)
    | (go_at_call 30; (with_reducible refine HM.out.mono ?_); rintro e w' ⟨rfl, rfl⟩)
    | (at_builtin; refine wpList_sapps strT rfl (.tmp 28) (.tmp 29) rfl _ ss rfl hO1 b2 o2 tt tt.length d rfl rfl (fun i hi => by rw [hB1.cell hb2]; exact HC2.out i hi) htp (by have := HS1.out; have := HS2.out; omega) ?_; intro v2 w2 hO2 hB2'; have hB2 := hB1.trans hB2')
    | (at_builtin; refine wpList_sapps strT rfl (.tmp 26) (.tmp 27) rfl _ [] rfl (SOwn.made w) b1 o1 ss ss.length c rfl rfl (fun i hi => by rw [((Below.refl w.heap.size w).alloc (Nat.le_refl _) (Obj.cells #[] 9)).cell hb1]; exact HC1.out i hi) hsp (by have := HS1.out.1; simp only [List.length_nil]; omega) ?_; rw [List.nil_append]; intro v1 w1 hO1 hB1'; have hB1 := ((Below.refl w.heap.size w).alloc (Nat.le_refl _) (Obj.cells #[] 9)).trans hB1')
    | (go_at_call 34; (with_reducible refine (HJ1.out _ (hv.more hB2)).mono ?_); rintro e w4 ⟨rfl, hB4'⟩; have hB4 := hB2.trans (hB4'.mono hB2.size); have hO4 := hO2.more hB4')
    | (go_at_call 34; (with_reducible refine (HJ2.out _ (hu.more hB4)).mono ?_); rintro e w5 ⟨rfl, hB5'⟩; have hB5 := hB4.trans (hB5'.mono hB4.size); have hO5 := hO4.more hB5')
    | (go_at_call 31; refine (HWO.out _).mono ?_; rintro e w6 ⟨⟨v3, s3, rfl, hv3, hb3⟩, hB6'⟩; have HB3 := Lib.hid hb3; clear hb3; have hB6 := hB5.trans (hB6'.mono hB5.size); have hO6 := hO5.more hB6')
    | (go_at_call 34; refine (HJ3.out _ _ hO6.strL).mono ?_; rintro e w7 ⟨rfl, hB7'⟩; have hB7 := hB6.trans (hB7'.mono hB6.size); have hO7 := hO6.more hB7'; have hv7 := hv3.more hB7')
    | (go_at_call 33; refine (same_true _ _ _ _ _ hv7 hO7.strL HB3.out (by rw [HB3.out]; exact HBL.out)).mono ?_; rintro e w8 ⟨rfl, k, rfl⟩; have hB8 := below_drewN hB7 k)
    | (go_at_call 9; refine (awake_any _ (hE.more hB8)).mono ?_; rintro e w9 ⟨rfl, hB9'⟩; have hB9 := hB8.trans (hB9'.mono hB8.size)))
  go_ret
  exact ⟨rfl, hB9⟩
end Go.Proofs.YtcdpcbdmnmipcaaDoor
