/- Sell and Cancel, the program's and the reference's; Same. -/
import Derived.Test.YtnakdacnfbgpnaaNesF
namespace Go.Proofs.Ytnakdacnfbgpnaa
open Go.RowKit Go.Shelf
set_option linter.unusedSimpArgs false
set_option linter.unusedVariables false

theorem ROwn.row {B : Nat} {W : World} {v : Value} {s : List Int} (h : ROwn 3 1 encI B W v s) (hne : s ≠ []) : ∃ g cap, v = .slice (some ⟨g, 0, none⟩) s.length cap ∧ B ≤ g ∧ Row W g s := by
  have hr := h.rowL rowI.len
  rcases h.own.2 with ⟨rfl, h1⟩ | ⟨g, cap, cur, rfl, hB, hgb, hnc, _⟩
  · exact absurd (List.eq_nil_of_length_eq_zero h1) hne
  · refine ⟨g, cap, rfl, hB, fun j hj => ?_, fun j hj => ?_, (Array.getElem?_eq_some_iff.1 hgb).1⟩
    · obtain ⟨bb, o, e, hc⟩ := int_at hr (List.getElem?_eq_getElem hj)
      cases e
      rw [Nat.zero_add] at hc
      exact hc
    · unfold World.frozen?
      simp only [hgb]
      simp
theorem erI (k : Nat) (n : Int) : (k : Int) < n ∨ n ≤ (k : Int) := by omega
theorem nilI_yes (n c : Nat) (w : World) : (binOp .eql 25 (.slice none n c) (.slice none 0 0)).run Try.prog w = .ok (.bool true) w := by kernel_rfl
theorem nilI_no (a : Addr) (n c : Nat) (w : World) : (binOp .eql 25 (.slice (some a) n c) (.slice none 0 0)).run Try.prog w = .ok (.bool false) w := by kernel_rfl
set_option maxRecDepth 100000 in
set_option maxHeartbeats 2000000 in
theorem cloneI_any (A : Option Addr) (c : Nat) (l : List Int) (w : World) (hl : l.length ≤ 1000) (hL : IntR w (.slice A l.length c) l) :
    Calls Try.prog 39 #[.slice A l.length c] w fun e w' => ∃ v', e = .returned v' ∧ ROwn 3 1 encI w.heap.size w' v' l ∧ Below w.heap.size w w' := by
  cases A with
  | none =>
    have h0 : l = [] := by
      obtain ⟨A', c', h1, h2⟩ := hL
      simp only [Value.slice.injEq] at h1
      obtain ⟨rfl, _, rfl⟩ := h1
      rcases h2 with h | ⟨b, o, h, _⟩
      · exact h
      · cases h
    subst h0
    have n1 := nilI_yes 0 c w
    go_enter Try.func39, Try.ntmps39
    go_wp2
    go_ret
    exact ⟨_, rfl, ROwn.nil (Nat.le_refl _), Below.refl _ _⟩
  | some ad =>
    have n1 := nilI_no ad l.length c w
    have hb0 := bel_alloc w (.cells #[] 3)
    have HO := Lib.hid (ROwn.new (e := 3) (sz := 1) (enc := encI) (B := w.heap.size) (w := w) (Nat.le_refl _) [] (fun x => rfl) (cs := #[]) rfl (by simp))
    have HL := Lib.hid (hL.more hb0)
    clear hL
    go_enter Try.func39, Try.ntmps39
    go_wp2_with (at_builtin; refine wpList_rappl rowI rfl _ _ rfl HO.out rfl l _ rfl HL.out (by simp; omega) ?_; intro v' w' hO1 hC1; refine Hid.out ?_)
    have HR : Hid (ROwn 3 1 encI w.heap.size w' v' l ∧ Below w.heap.size w w') := Lib.hid ⟨by simpa using hO1, hb0.trans (hC1.below HO.out)⟩
    clear hO1 hC1
    refine Lib.hid ?_
    go_wp2
    go_ret
    exact ⟨_, rfl, HR.out⟩
theorem wiL_at {s : List Int} {k : Nat} {x n : Int} (h : s[k]? = some x) : wiL s k n = s.set k (x + n) := by unfold wiL; rw [h]; rfl
set_option maxRecDepth 100000 in
set_option maxHeartbeats 4000000 in
theorem add_any (A : Option Addr) (c : Nat) (s : List Int) (k : Nat) (n x : Int) (w : World) (hl : s.length ≤ 1000) (hL : IntR w (.slice A s.length c) s) (hx : s[k]? = some x) (hn : wrap64 (x + n) = x + n) :
    Calls Try.prog 28 #[.slice A s.length c, .int .i64 (k : Int), .int .i64 n] w fun e w' => ∃ v, e = .returned v ∧ IntR w' v (wiL s k n) ∧ Below w.heap.size w w' := by
  have hkl : k < s.length := (List.getElem?_eq_some_iff.1 hx).1
  have KC : Hid (Calls Try.prog 39 #[.slice A s.length c] w fun e w' => ∃ g cap, e = .returned (.slice (some ⟨g, 0, none⟩) s.length cap) ∧ w.heap.size ≤ g ∧ Row w' g s ∧ Below w.heap.size w w') := Lib.hid ((cloneI_any A c s w hl hL).mono (by
    rintro e w' ⟨v, rfl, hO, hb⟩
    obtain ⟨g, cap, rfl, hg, hr⟩ := hO.row (by intro e; rw [e] at hkl; simp at hkl)
    exact ⟨g, cap, rfl, hg, hr, hb⟩))
  have HW := Lib.hid (wiL_at (n := n) hx)
  have HX := Lib.hid hx
  obtain ⟨m, hm⟩ : ∃ m, m = s.length := ⟨_, rfl⟩
  have HM := Lib.hid hm
  rw [← hm] at KC hkl hl ⊢
  have i1 : (k : Int) < (m : Int) := by omega
  clear hL hx hm
  go_enter Try.func28, Try.ntmps28
  go_upto_region 2 with (go_at_call 39; refine KC.out.mono ?_; rintro e w6 ⟨g, cap, rfl, hg, hr, hb6⟩)
  have d0 : w6.cell? ⟨g, k, none⟩ = some (.int .i64 x) := by
    rw [hr.cell k (by have := HM.out; omega)]
    obtain ⟨h1, h2⟩ := List.getElem?_eq_some_iff.1 HX.out
    rw [h2]
  have d1 := hr.froz k (by have := HM.out; omega)
  have HR : Hid (Row (w6.setCell ⟨g, k, none⟩ (.int .i64 (x + n))) g (wiL s k n) ∧ Below w.heap.size w (w6.setCell ⟨g, k, none⟩ (.int .i64 (x + n)))) := Lib.hid ⟨by rw [HW.out]; exact hr.set k (by have := HM.out; omega) _, hb6.setCell (p := ⟨g, k, none⟩) hg _⟩
  clear hr hb6 hg
  go_wp2
  go_ret
  refine ⟨_, rfl, ?_, ?_⟩
  · have h := HR.out.1.intR (c := cap)
    rw [wiL_len, ← HM.out, ← hn] at h
    first | exact h | (rw [hn] at h; exact h)
  · first | exact HR.out.2 | (rw [hn]; exact HR.out.2)
set_option maxRecDepth 100000 in
set_option maxHeartbeats 4000000 in
theorem with_any (A : Option Addr) (c : Nat) (s : List Int) (k : Nat) (n x : Int) (w : World) (hl : s.length ≤ 1000) (hL : IntR w (.slice A s.length c) s) (hx : s[k]? = some x) (hn : wrap64 (x + n) = x + n) :
    Calls Try.prog 30 #[.slice A s.length c, .int .i64 (k : Int), .int .i64 n] w fun e w' => ∃ v, e = .returned v ∧ IntR w' v (wiL s k n) ∧ Below w.heap.size w w' := by
  have hkl : k < s.length := (List.getElem?_eq_some_iff.1 hx).1
  have HW := Lib.hid (wiL_at (n := n) hx)
  have HX := Lib.hid hx
  have HL := Lib.hid hL
  obtain ⟨m, hm⟩ : ∃ m, m = s.length := ⟨_, rfl⟩
  have HM := Lib.hid hm
  rw [← hm] at HL hkl hl ⊢
  have i1 : (k : Int) < (m : Int) := by omega
  have HI : Hid (ROwn 3 1 encI w.heap.size w (.slice none 0 0) (s.take 0) ∧ SW w w) := Lib.hid ⟨ROwn.nil (Nat.le_refl _), Below.refl _ _⟩
  clear hL hx hm
  go_enter Try.func30, Try.ntmps30
  go_wp2
  go_loopg [7, 8] m (fun kx v7 v8 wr => ∃ (v : Value) (j : Nat), v = v7 ∧ v8 = .int .i64 j ∧ j + kx = m ∧ Hid (ROwn 3 1 encI w.heap.size wr v (s.take j) ∧ SW w wr))
  case atStart => exact ⟨_, 0, rfl, rfl, by omega, HI⟩
  case round =>
    obtain ⟨v, j, rfl, rfl, hkx, HH⟩ := hrel
    clear HI
    have HKX := Lib.hid hkx
    by_cases hlt : j < m
    · obtain ⟨y, hy⟩ : ∃ y, s[j]? = some y := ⟨_, List.getElem?_eq_getElem (by have := HM.out; omega)⟩
      have HT : Hid (s.take (j + 1) = s.take j ++ [y]) := Lib.hid (by rw [List.take_add_one, hy]; rfl)
      obtain ⟨bb, o, e1, z0⟩ := int_at (HL.out.more HH.out.2) hy
      subst e1
      have i2 : (j : Int) < (m : Int) := by omega
      have HLm : Hid ((s.take j).length ≤ 100000000) := Lib.hid (by rw [List.length_take]; omega)
      have HNX : Hid (j + 1 + (m - (j + 1)) = m) := Lib.hid (by omega)
      have hO := HH.out.1
      clear hy hkx
      go_wp2_with (at_builtin; refine wpList_rapp rowI rfl _ _ rfl hO rfl (bel_alloc _ _) _ y _ rfl (cs := #[.int .i64 y]) rfl (heap_alloc_new _ _) HLm.out ?_; intro v1 w1 hO1 hC1)
      have HY : Hid (ROwn 3 1 encI w.heap.size w1 v1 (s.take (j + 1)) ∧ SW w w1) := Lib.hid (by rw [HT.out]; exact ⟨hO1, Below.trans HH.out.2 (hC1.below (B := w.heap.size) hO)⟩)
      clear hO hO1 hC1
      go_roundg (m - (j + 1))
      case measure => have := HKX.out; omega
      case rel => exact ⟨_, j + 1, rfl, by go_num, HNX.out, HY⟩
    · have hS : s.take j = s := List.take_of_length_le (by have := HM.out; omega)
      have hO := HH.out.1
      have hB := HH.out.2
      rw [hS] at hO
      obtain ⟨g, cap, e1, hg, hr⟩ := hO.row (by intro e; have := HM.out; rw [e] at this; simp at this; omega)
      subst e1
      rw [← HM.out]
      have d0 : wr.cell? ⟨g, k, none⟩ = some (.int .i64 x) := by
        rw [hr.cell k (by have := HM.out; omega)]
        obtain ⟨h1, h2⟩ := List.getElem?_eq_some_iff.1 HX.out
        rw [h2]
      have d1 := hr.froz k (by have := HM.out; omega)
      have HR : Hid (Row (wr.setCell ⟨g, k, none⟩ (.int .i64 (x + n))) g (wiL s k n) ∧ Below w.heap.size w (wr.setCell ⟨g, k, none⟩ (.int .i64 (x + n)))) := Lib.hid ⟨by rw [HW.out]; exact hr.set k (by have := HM.out; omega) _, Below.setCell (p := ⟨g, k, none⟩) hB hg _⟩
      have i2 : ¬ (j : Int) < (m : Int) := by omega
      clear hr hB hg hO hS HH
      go_wp2
      go_ret
      refine ⟨_, rfl, ?_, ?_⟩
      · have h := HR.out.1.intR (c := cap)
        rw [wiL_len, ← HM.out, ← hn] at h
        first | exact h | (rw [hn] at h; exact h)
      · first | exact HR.out.2 | (rw [hn]; exact HR.out.2)
set_option maxRecDepth 100000 in
set_option maxHeartbeats 4000000 in
theorem check_any (b : Cb) (A : Option Addr) (c : Nat) (s : List Int) (r n : Int) (w : World) (hl : s.length ≤ 1000) (hL : IntR w (.slice A s.length c) s) :
    Calls Try.prog 27 #[aggCb b, .slice A s.length c, .int .i64 r, .int .i64 n] w fun e w' => e = .returned (.int .i64 (erP b s r n)) ∧ Below w.heap.size w w' := by
  have hbA := bel_alloc w (.cells #[.string b.name, .int .i64 b.seats, .int .i64 b.over, .slice b.A b.l.length b.c] cbT)
  have q0 := cb_cells w b 0 _ rfl
  have q1 := cb_cells w b 1 _ rfl
  have q2 := cb_cells w b 2 _ rfl
  have q3 := cb_cells w b 3 _ rfl
  have KR : Hid (∀ W, SW w W → Calls Try.prog 23 #[aggCb b, .slice A s.length c] W fun e w' => e = .returned (.bool (rgtB b s)) ∧ Below W.heap.size W w') := Lib.hid (fun W h => isRight_any b A c s W hl (hL.more h))
  have HA := Lib.hid hbA
  clear hL
  cases hr : rgtB b s with
  | false =>
    rw [hr] at KR
    have HO : Hid (erP b s r n = 2) := Lib.hid (by unfold erP; rw [if_pos (.inl hr)])
    rw [HO.out]
    clear hr HO
    go_enter Try.func27, Try.ntmps27
    go_wp2_with (go_at_call 23; refine (KR.out _ HA.out).mono ?_; rintro e w6 ⟨rfl, hb6⟩)
    go_ret
    exact ⟨rfl, HA.out.trans (hb6.mono HA.out.size)⟩
  | true =>
    rw [hr] at KR
    by_cases h1 : n < 1
    · have HO : Hid (erP b s r n = 2) := Lib.hid (by unfold erP; rw [if_pos (.inr h1)])
      rw [HO.out]
      clear hr HO
      go_enter Try.func27, Try.ntmps27
      go_wp2_with (go_at_call 23; refine (KR.out _ HA.out).mono ?_; rintro e w6 ⟨rfl, hb6⟩)
      go_ret
      exact ⟨rfl, HA.out.trans (hb6.mono HA.out.size)⟩
    · have hn0 : ¬ (rgtB b s = false ∨ n < 1) := by rw [hr]; simp; omega
      by_cases h2 : r < 0
      · have HO : Hid (erP b s r n = 16) := Lib.hid (by unfold erP; rw [if_neg hn0, if_pos (.inl h2)])
        rw [HO.out]
        clear hr HO hn0
        go_enter Try.func27, Try.ntmps27
        go_wp2_with (go_at_call 23; refine (KR.out _ HA.out).mono ?_; rintro e w6 ⟨rfl, hb6⟩)
        go_ret
        exact ⟨rfl, HA.out.trans (hb6.mono HA.out.size)⟩
      · by_cases h3 : (s.length : Int) ≤ r
        · have HO : Hid (erP b s r n = 16) := Lib.hid (by unfold erP; rw [if_neg hn0, if_pos (.inr h3)])
          rw [HO.out]
          clear hr HO hn0
          go_enter Try.func27, Try.ntmps27
          go_wp2_with (go_at_call 23; refine (KR.out _ HA.out).mono ?_; rintro e w6 ⟨rfl, hb6⟩)
          go_ret
          exact ⟨rfl, HA.out.trans (hb6.mono HA.out.size)⟩
        · have HO : Hid (erP b s r n = 0) := Lib.hid (by unfold erP; rw [if_neg hn0, if_neg (by omega)])
          rw [HO.out]
          clear hr HO hn0
          go_enter Try.func27, Try.ntmps27
          go_wp2_with (go_at_call 23; refine (KR.out _ HA.out).mono ?_; rintro e w6 ⟨rfl, hb6⟩)
          go_ret
          exact ⟨rfl, HA.out.trans (hb6.mono HA.out.size)⟩
set_option maxRecDepth 100000 in
set_option maxHeartbeats 4000000 in
theorem bad_any (b : Cb) (A : Option Addr) (c : Nat) (s : List Int) (r n : Int) (w : World) (hl : s.length ≤ 1000) (hL : IntR w (.slice A s.length c) s) :
    Calls Try.prog 29 #[aggCb b, .slice A s.length c, .int .i64 r, .int .i64 n] w fun e w' => e = .returned (.int .i64 (erP b s r n)) ∧ Below w.heap.size w w' := by
  have hbA := bel_alloc w (.cells #[.string b.name, .int .i64 b.seats, .int .i64 b.over, .slice b.A b.l.length b.c] cbT)
  have q0 := cb_cells w b 0 _ rfl
  have q1 := cb_cells w b 1 _ rfl
  have q2 := cb_cells w b 2 _ rfl
  have q3 := cb_cells w b 3 _ rfl
  have KR : Hid (∀ W, SW w W → Calls Try.prog 25 #[aggCb b, .slice A s.length c] W fun e w' => e = .returned (.bool (rgtB b s)) ∧ Below W.heap.size W w') := Lib.hid (fun W h => rright_any b A c s W hl (hL.more h))
  have HA := Lib.hid hbA
  clear hL
  cases hr : rgtB b s with
  | false =>
    rw [hr] at KR
    have HO : Hid (erP b s r n = 2) := Lib.hid (by unfold erP; rw [if_pos (.inl hr)])
    rw [HO.out]
    clear hr HO
    go_enter Try.func29, Try.ntmps29
    go_wp2_with (go_at_call 25; refine (KR.out _ HA.out).mono ?_; rintro e w6 ⟨rfl, hb6⟩)
    go_ret
    exact ⟨rfl, HA.out.trans (hb6.mono HA.out.size)⟩
  | true =>
    rw [hr] at KR
    by_cases h1 : n < 1
    · have HO : Hid (erP b s r n = 2) := Lib.hid (by unfold erP; rw [if_pos (.inr h1)])
      rw [HO.out]
      clear hr HO
      go_enter Try.func29, Try.ntmps29
      go_wp2_with (go_at_call 25; refine (KR.out _ HA.out).mono ?_; rintro e w6 ⟨rfl, hb6⟩)
      go_ret
      exact ⟨rfl, HA.out.trans (hb6.mono HA.out.size)⟩
    · have hn0 : ¬ (rgtB b s = false ∨ n < 1) := by rw [hr]; simp; omega
      by_cases h2 : r < 0
      · have HO : Hid (erP b s r n = 16) := Lib.hid (by unfold erP; rw [if_neg hn0, if_pos (.inl h2)])
        rw [HO.out]
        clear hr HO hn0
        go_enter Try.func29, Try.ntmps29
        go_wp2_with (go_at_call 25; refine (KR.out _ HA.out).mono ?_; rintro e w6 ⟨rfl, hb6⟩)
        go_ret
        exact ⟨rfl, HA.out.trans (hb6.mono HA.out.size)⟩
      · by_cases h3 : (s.length : Int) ≤ r
        · have HO : Hid (erP b s r n = 16) := Lib.hid (by unfold erP; rw [if_neg hn0, if_pos (.inr h3)])
          rw [HO.out]
          clear hr HO hn0
          go_enter Try.func29, Try.ntmps29
          go_wp2_with (go_at_call 25; refine (KR.out _ HA.out).mono ?_; rintro e w6 ⟨rfl, hb6⟩)
          go_ret
          exact ⟨rfl, HA.out.trans (hb6.mono HA.out.size)⟩
        · have HO : Hid (erP b s r n = 0) := Lib.hid (by unfold erP; rw [if_neg hn0, if_neg (by omega)])
          rw [HO.out]
          clear hr HO hn0
          go_enter Try.func29, Try.ntmps29
          go_wp2_with (go_at_call 25; refine (KR.out _ HA.out).mono ?_; rintro e w6 ⟨rfl, hb6⟩)
          go_ret
          exact ⟨rfl, HA.out.trans (hb6.mono HA.out.size)⟩
/-- what Sell and Cancel give -/
def selL (b : Cb) (s : List Int) (r n : Int) : List Int := if selE b s r n = 0 then wiL s r.toNat n else []
def canL (b : Cb) (s : List Int) (r n : Int) : List Int := if canE b s r n = 0 then wiL s r.toNat (-n) else []
end Go.Proofs.Ytnakdacnfbgpnaa
