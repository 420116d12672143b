/- What can be put; copies of holds; New. -/
import Derived.Test.YthillkbcbklhaaaHldB
namespace Go.Proofs.Ythillkbcbklhaaa
open Go.RowKit Go.Shelf Go.Maps Go.MapKept
set_option linter.unusedSimpArgs false
set_option linter.unusedVariables false

def S5 (w : World) (N : Nat) (v0 v1 v2 v3 v4 : Value) : World := ((((w.setCell ⟨N, 0, none⟩ v0).setCell ⟨N, 1, none⟩ v1).setCell ⟨N, 2, none⟩ v2).setCell ⟨N, 3, none⟩ v3).setCell ⟨N, 4, none⟩ v4
theorem S5.heap {w : World} {N : Nat} {t : TypeId} {a0 a1 a2 a3 a4 : Value} (h : w.heap[N]? = some (.cells #[a0, a1, a2, a3, a4] t (0, 0))) (v0 v1 v2 v3 v4 : Value) : (S5 w N v0 v1 v2 v3 v4).heap[N]? = some (.cells #[v0, v1, v2, v3, v4] t (0, 0)) := by
  have e1 : (w.setCell ⟨N, 0, none⟩ v0).heap[N]? = some (.cells #[v0, a1, a2, a3, a4] t (0, 0)) := heap_setCell_same w N 0 _ t v0 h
  have e2 : ((w.setCell ⟨N, 0, none⟩ v0).setCell ⟨N, 1, none⟩ v1).heap[N]? = some (.cells #[v0, v1, a2, a3, a4] t (0, 0)) := heap_setCell_same _ N 1 _ t v1 e1
  have e3 : (((w.setCell ⟨N, 0, none⟩ v0).setCell ⟨N, 1, none⟩ v1).setCell ⟨N, 2, none⟩ v2).heap[N]? = some (.cells #[v0, v1, v2, a3, a4] t (0, 0)) := heap_setCell_same _ N 2 _ t v2 e2
  have e4 : ((((w.setCell ⟨N, 0, none⟩ v0).setCell ⟨N, 1, none⟩ v1).setCell ⟨N, 2, none⟩ v2).setCell ⟨N, 3, none⟩ v3).heap[N]? = some (.cells #[v0, v1, v2, v3, a4] t (0, 0)) := heap_setCell_same _ N 3 _ t v3 e3
  exact heap_setCell_same _ N 4 _ t v4 e4
theorem S5.but (w : World) (N : Nat) (v0 v1 v2 v3 v4 : Value) : But w (S5 w N v0 v1 v2 v3 v4) (fun k => k = N) :=
  ((((But.setCell w N 0 v0).trans (But.setCell _ N 1 v1) (fun _ _ h => h)).trans (But.setCell _ N 2 v2) (fun _ _ h => h)).trans (But.setCell _ N 3 v3) (fun _ _ h => h)).trans (But.setCell _ N 4 v4) (fun _ _ h => h)
theorem lt_of_cell2 {w : World} {n : Nat} {o : Obj} (h : w.heap[n]? = some o) : n < w.heap.size := (Array.getElem?_eq_some_iff.1 h).1
theorem hd_cells (w : World) (h : Hd) : ∀ j u, (encH h)[j]? = some u → (w.alloc (.cells #[.int .i64 h.id, .slice h.A h.l.length h.c, .string h.cls, .int .i64 h.cnt, .int .i64 h.til] hdT)).cell? ⟨w.heap.size, j, none⟩ = some u := by
  intro j u hj
  rw [show #[Value.int .i64 h.id, .slice h.A h.l.length h.c, .string h.cls, .int .i64 h.cnt, .int .i64 h.til] = (encH h).toArray from rfl, cells_new, List.getElem?_toArray]
  exact hj
theorem hd_heap (w : World) (h : Hd) : (w.alloc (.cells #[.int .i64 h.id, .slice h.A h.l.length h.c, .string h.cls, .int .i64 h.cnt, .int .i64 h.til] hdT)).heap[w.heap.size]? = some (.cells #[.int .i64 h.id, .slice h.A h.l.length h.c, .string h.cls, .int .i64 h.cnt, .int .i64 h.til] hdT (0, 0)) := heap_alloc_new w _
set_option maxRecDepth 100000 in
set_option maxHeartbeats 4000000 in
theorem isRight_any (h : Hd) (w : World) (hok : OkH h) (hL : LidL w (.slice h.A h.l.length h.c) h.l) : Calls Try.prog 26 #[aggH h] w fun e w' => e = .returned (.bool (rgtH h)) ∧ Below w.heap.size w w' := by
  have hb5 := bel_alloc w (.cells #[.int .i64 h.id, .slice h.A h.l.length h.c, .string h.cls, .int .i64 h.cnt, .int .i64 h.til] hdT)
  have q0 := hd_cells w h 0 _ rfl
  have q1 := hd_cells w h 1 _ rfl
  have q3 := hd_cells w h 3 _ rfl
  have q4 := hd_cells w h 4 _ rfl
  have KT := Lib.hid (hasTwice_any h.A h.c h.l (w.alloc (.cells #[.int .i64 h.id, .slice h.A h.l.length h.c, .string h.cls, .int .i64 h.cnt, .int .i64 h.til] hdT)) hok.len hok.legs (hL.more hb5))
  have KM := Lib.hid (fun W => isTime_any h.til W)
  have HB5 := Lib.hid hb5
  clear hb5 hL
  unfold rgtH
  by_cases h1 : 1 ≤ h.id
  · by_cases h2 : 0 < h.l.length
    · have i2 : (0 : Int) < (h.l.length : Int) := by omega
      cases ht : twiP h.l with
      | true =>
        rw [ht] at KT
        have HR : Hid ((decide (1 ≤ h.id) && decide (0 < h.l.length) && !true && decide (1 ≤ h.cnt) && decide (h.cnt ≤ 99) && timB h.til) = false) := Lib.hid (by simp)
        rw [HR.out]
        skip
        go_enter Try.func26, Try.ntmps26
        go_upto_region 1 with fail
        generalize w.alloc (.cells #[.int .i64 h.id, .slice h.A h.l.length h.c, .string h.cls, .int .i64 h.cnt, .int .i64 h.til] hdT) = w5 at *
        go_wp2_with (go_at_call 35; (with_reducible refine KT.out.mono ?_); rintro e w6 ⟨rfl, hb6⟩)
        go_ret
        exact ⟨rfl, HB5.out.trans (hb6.mono HB5.out.size)⟩
      | false =>
        rw [ht] at KT
        by_cases h3 : 1 ≤ h.cnt
        · by_cases h4 : h.cnt ≤ 99
          · have HR : Hid ((decide (1 ≤ h.id) && decide (0 < h.l.length) && !false && decide (1 ≤ h.cnt) && decide (h.cnt ≤ 99) && timB h.til) = timB h.til) := Lib.hid (by simp [h1, h2, h3, h4])
            rw [HR.out]
            generalize timB h.til = tt at *
            skip
            go_enter Try.func26, Try.ntmps26
            go_upto_region 1 with fail
            generalize w.alloc (.cells #[.int .i64 h.id, .slice h.A h.l.length h.c, .string h.cls, .int .i64 h.cnt, .int .i64 h.til] hdT) = w5 at *
            go_wp2_with (first
              | (go_at_call 35; (with_reducible refine KT.out.mono ?_); rintro e w6 ⟨rfl, hb6⟩; have q3 := bel_cell hb6 q3; have q4 := bel_cell hb6 q4)
              | (go_at_call 32; (with_reducible refine (KM.out _).mono ?_); rintro e w7 ⟨rfl, rfl⟩))
            go_ret
            exact ⟨rfl, HB5.out.trans (hb6.mono HB5.out.size)⟩
          · have HR : Hid ((decide (1 ≤ h.id) && decide (0 < h.l.length) && !false && decide (1 ≤ h.cnt) && decide (h.cnt ≤ 99) && timB h.til) = false) := Lib.hid (by simp [h4])
            rw [HR.out]
            skip
            go_enter Try.func26, Try.ntmps26
            go_upto_region 1 with fail
            generalize w.alloc (.cells #[.int .i64 h.id, .slice h.A h.l.length h.c, .string h.cls, .int .i64 h.cnt, .int .i64 h.til] hdT) = w5 at *
            go_wp2_with (go_at_call 35; (with_reducible refine KT.out.mono ?_); rintro e w6 ⟨rfl, hb6⟩; have q3 := bel_cell hb6 q3)
            go_ret
            exact ⟨rfl, HB5.out.trans (hb6.mono HB5.out.size)⟩
        · have HR : Hid ((decide (1 ≤ h.id) && decide (0 < h.l.length) && !false && decide (1 ≤ h.cnt) && decide (h.cnt ≤ 99) && timB h.til) = false) := Lib.hid (by simp [h3])
          rw [HR.out]
          skip
          go_enter Try.func26, Try.ntmps26
          go_upto_region 1 with fail
          generalize w.alloc (.cells #[.int .i64 h.id, .slice h.A h.l.length h.c, .string h.cls, .int .i64 h.cnt, .int .i64 h.til] hdT) = w5 at *
          go_wp2_with (go_at_call 35; (with_reducible refine KT.out.mono ?_); rintro e w6 ⟨rfl, hb6⟩; have q3 := bel_cell hb6 q3)
          go_ret
          exact ⟨rfl, HB5.out.trans (hb6.mono HB5.out.size)⟩
    · have HR : Hid ((decide (1 ≤ h.id) && decide (0 < h.l.length) && !twiP h.l && decide (1 ≤ h.cnt) && decide (h.cnt ≤ 99) && timB h.til) = false) := Lib.hid (by simp [h2])
      rw [HR.out]
      have i2 : ¬ (0 : Int) < (h.l.length : Int) := by omega
      go_enter Try.func26, Try.ntmps26
      go_wp2
      go_ret
      exact ⟨rfl, HB5.out⟩
  · have HR : Hid ((decide (1 ≤ h.id) && decide (0 < h.l.length) && !twiP h.l && decide (1 ≤ h.cnt) && decide (h.cnt ≤ 99) && timB h.til) = false) := Lib.hid (by simp [h1])
    rw [HR.out]
    go_enter Try.func26, Try.ntmps26
    go_wp2
    go_ret
    exact ⟨rfl, HB5.out⟩
theorem nilD_yes (n c : Nat) (w : World) : (binOp .eql 29 (.slice none n c) (.slice none 0 0)).run Try.prog w = .ok (.bool true) w := by kernel_rfl
theorem nilD_no (a : Addr) (n c : Nat) (w : World) : (binOp .eql 29 (.slice (some a) n c) (.slice none 0 0)).run Try.prog w = .ok (.bool false) w := by kernel_rfl
set_option maxRecDepth 100000 in
set_option maxHeartbeats 2000000 in
theorem cloneD_own (A : Option Addr) (c : Nat) (l : List Lid) (w : World) (hl : l.length ≤ 1000) (hL : LidL w (.slice A l.length c) l) :
    Calls Try.prog 36 #[.slice A l.length c] w fun e w' => ∃ A' c', e = .returned (.slice A' l.length c') ∧ RowIn (fun b => w.heap.size ≤ b) 4 encD w' A' l ∧ Below w.heap.size w w' := by
  have key : ∀ (w' : World) (v' : Value), ROwn lidT 4 encD w.heap.size w' v' l → ∃ A' c', v' = .slice A' l.length c' ∧ RowIn (fun b => w.heap.size ≤ b) 4 encD w' A' l := by
    intro w' v' hO
    obtain ⟨A', c', rfl, h2⟩ := hO.rowL rowD.len
    refine ⟨A', c', rfl, ?_⟩
    rcases h2 with h2 | ⟨b, o, rfl, h3, h4⟩
    · exact .inl h2
    · exact .inr ⟨b, o, rfl, (hO.low rfl).1, h3, h4⟩
  cases A with
  | none =>
    have h0 : l = [] := by
      obtain ⟨A', c', h1, h2⟩ := hL
      simp only [Value.slice.injEq] at h1
      obtain ⟨rfl, _, rfl⟩ := h1
      rcases h2 with h | ⟨b, o, h, _⟩
      · exact h
      · cases h
    subst h0
    have n1 := nilD_yes 0 c w
    go_enter Try.func36, Try.ntmps36
    go_wp2
    go_ret
    exact ⟨none, 0, rfl, .inl rfl, Below.refl _ _⟩
  | some ad =>
    have n1 := nilD_no ad l.length c w
    have hb0 := bel_alloc w (.cells #[] lidT)
    have HO := Lib.hid (ROwn.new (e := lidT) (sz := 4) (enc := encD) (B := w.heap.size) (w := w) (Nat.le_refl _) [] (fun x => rfl) (cs := #[]) rfl (by simp))
    have HL := Lib.hid (hL.more hb0)
    have KEY := Lib.hid key
    clear hL key
    go_enter Try.func36, Try.ntmps36
    go_wp2_with (at_builtin; refine wpList_rappl rowD rfl _ _ rfl HO.out rfl l _ rfl HL.out (by simp; omega) ?_; intro v' w' hO1 hC1; refine Hid.out ?_)
    obtain ⟨A', c', e1, h1⟩ := KEY.out w' v' (by simpa using hO1)
    subst e1
    have HR : Hid (RowIn (fun b => w.heap.size ≤ b) 4 encD w' A' l ∧ Below w.heap.size w w') := Lib.hid ⟨h1, hb0.trans (hC1.below HO.out)⟩
    clear hO1 hC1 h1
    refine Lib.hid ?_
    go_wp2
    go_ret
    exact ⟨A', c', rfl, HR.out.1, HR.out.2⟩
set_option maxRecDepth 100000 in
set_option maxHeartbeats 4000000 in
theorem clone_any (h : Hd) (w : World) (hlen : h.l.length ≤ 1000) (hL : LidL w (.slice h.A h.l.length h.c) h.l) : Calls Try.prog 27 #[aggH h] w fun e w' => ∃ A' c', e = .returned (aggH { h with A := A', c := c' }) ∧ RowIn (fun b => w.heap.size ≤ b) 4 encD w' A' h.l ∧ Below w.heap.size w w' := by
  have hb0 := bel_alloc w (.cells #[.int .i64 h.id, .slice h.A h.l.length h.c, .string h.cls, .int .i64 h.cnt, .int .i64 h.til] hdT)
  have hb1 := bel_alloc (w.alloc (.cells #[.int .i64 h.id, .slice h.A h.l.length h.c, .string h.cls, .int .i64 h.cnt, .int .i64 h.til] hdT)) (.cells #[.int .i64 0, .slice none 0 0, .string noB, .int .i64 0, .int .i64 0] hdT)
  have hbb := hb0.trans (hb1.mono hb0.size)
  have hx := (hb1.block _ (by simp)).trans (hd_heap w h)
  have hz : ((w.alloc (.cells #[.int .i64 h.id, .slice h.A h.l.length h.c, .string h.cls, .int .i64 h.cnt, .int .i64 h.til] hdT)).alloc (.cells #[.int .i64 0, .slice none 0 0, .string noB, .int .i64 0, .int .i64 0] hdT)).heap[(w.alloc (.cells #[.int .i64 h.id, .slice h.A h.l.length h.c, .string h.cls, .int .i64 h.cnt, .int .i64 h.til] hdT)).heap.size]? = some (.cells #[.int .i64 0, .slice none 0 0, .string noB, .int .i64 0, .int .i64 0] hdT (0, 0)) := heap_alloc_new _ _
  have KL := Lib.hid (cloneD_own h.A h.c h.l ((w.alloc (.cells #[.int .i64 h.id, .slice h.A h.l.length h.c, .string h.cls, .int .i64 h.cnt, .int .i64 h.til] hdT)).alloc (.cells #[.int .i64 0, .slice none 0 0, .string noB, .int .i64 0, .int .i64 0] hdT)) hlen (hL.more hbb))
  have hz2 : (w.alloc (.cells #[.int .i64 h.id, .slice h.A h.l.length h.c, .string h.cls, .int .i64 h.cnt, .int .i64 h.til] hdT)).heap.size = w.heap.size + 1 := by simp
  have hz3 : ((w.alloc (.cells #[.int .i64 h.id, .slice h.A h.l.length h.c, .string h.cls, .int .i64 h.cnt, .int .i64 h.til] hdT)).alloc (.cells #[.int .i64 0, .slice none 0 0, .string noB, .int .i64 0, .int .i64 0] hdT)).heap.size = w.heap.size + 2 := by simp
  rw [hz2] at hz
  have HX := Lib.hid hx
  have HZ := Lib.hid hz
  have HBB := Lib.hid hbb
  have q1 := cell_of_row _ _ 1 _ _ (0, 0) hx
  have HZ3 := Lib.hid hz3
  clear hb0 hb1 hbb hx hz hL hz2 hz3
  go_enter Try.func27, Try.ntmps27
  go_upto_region 1 with fail
  try simp only [World.size_alloc]
  generalize (w.alloc (.cells #[.int .i64 h.id, .slice h.A h.l.length h.c, .string h.cls, .int .i64 h.cnt, .int .i64 h.til] hdT)).alloc (.cells #[.int .i64 0, .slice none 0 0, .string noB, .int .i64 0, .int .i64 0] hdT) = w5 at *
  go_upto_region 2 with (go_at_call 36; (with_reducible refine KL.out.mono ?_); rintro e w6 ⟨A', c', rfl, hr, hb6⟩; have q1 := bel_cell hb6 q1; have f1 := frozen_of_row _ _ 1 _ _ ((hb6.block _ (lt_of_cell2 HX.out)).trans HX.out))
  have hX6 := (hb6.block _ (lt_of_cell2 HX.out)).trans HX.out
  have hZ6 := (hb6.block _ (lt_of_cell2 HZ.out)).trans HZ.out
  have hX7 := heap_setCell_same w6 w.heap.size 1 _ hdT (.slice A' h.l.length c') hX6
  have hbut := But.setCell w6 w.heap.size 1 (.slice A' h.l.length c')
  have hZ7 := (hbut.block (w.heap.size + 1) (lt_of_cell2 hZ6) (by omega)).trans hZ6
  have hs6 := hb6.size
  have hr7 := hr.but hbut (fun k e hk => by have := HZ3.out; omega)
  generalize w6.setCell ⟨w.heap.size, 1, none⟩ (.slice A' h.l.length c') = w7 at *
  have d0 := cell_of_row _ _ 0 _ _ (0, 0) hX7
  have d1 := cell_of_row _ _ 1 _ _ (0, 0) hX7
  have d2 := cell_of_row _ _ 2 _ _ (0, 0) hX7
  have d3 := cell_of_row _ _ 3 _ _ (0, 0) hX7
  have d4 := cell_of_row _ _ 4 _ _ (0, 0) hX7
  have y0 := cell_of_row _ _ 0 _ _ (0, 0) hZ7
  have y1 := cell_of_row _ _ 1 _ _ (0, 0) hZ7
  have y2 := cell_of_row _ _ 2 _ _ (0, 0) hZ7
  have y3 := cell_of_row _ _ 3 _ _ (0, 0) hZ7
  have y4 := cell_of_row _ _ 4 _ _ (0, 0) hZ7
  have g0 := frozen_of_row _ _ 0 _ _ hZ7
  have g1 := frozen_of_row _ _ 1 _ _ hZ7
  have g2 := frozen_of_row _ _ 2 _ _ hZ7
  have g3 := frozen_of_row _ _ 3 _ _ hZ7
  have g4 := frozen_of_row _ _ 4 _ _ hZ7
  have HZ7 := Lib.hid hZ7
  have HR7 := Lib.hid hr7
  have HB7 : Hid (Below w.heap.size w w7 ∧ w.heap.size + 2 ≤ w6.heap.size ∧ w6.heap.size ≤ w7.heap.size) := Lib.hid ⟨HBB.out.trans ((hb6.mono (by have := HZ3.out; omega)).trans (hbut.below (by have := HZ3.out; omega) (fun k hk e => by omega))), by have := HZ3.out; omega, hbut.size⟩
  clear hX6 hZ6 hX7 hZ7 hbut hr hr7 hs6 hb6 q1 f1
  go_wp2
  have hh := S5.heap HZ7.out (.int .i64 h.id) (.slice A' h.l.length c') (.string h.cls) (.int .i64 h.cnt) (.int .i64 h.til)
  have hbut := S5.but w7 (w.heap.size + 1) (.int .i64 h.id) (.slice A' h.l.length c') (.string h.cls) (.int .i64 h.cnt) (.int .i64 h.til)
  rw [show ((((w7.setCell ⟨w.heap.size + 1, 0, none⟩ (.int .i64 h.id)).setCell ⟨w.heap.size + 1, 1, none⟩ (.slice A' h.l.length c')).setCell ⟨w.heap.size + 1, 2, none⟩ (.string h.cls)).setCell ⟨w.heap.size + 1, 3, none⟩ (.int .i64 h.cnt)).setCell ⟨w.heap.size + 1, 4, none⟩ (.int .i64 h.til) = S5 w7 (w.heap.size + 1) (.int .i64 h.id) (.slice A' h.l.length c') (.string h.cls) (.int .i64 h.cnt) (.int .i64 h.til) from rfl]
  generalize S5 w7 (w.heap.size + 1) (.int .i64 h.id) (.slice A' h.l.length c') (.string h.cls) (.int .i64 h.cnt) (.int .i64 h.til) = w8 at *
  have d0 := cell_of_row _ _ 0 _ _ (0, 0) hh
  have d1 := cell_of_row _ _ 1 _ _ (0, 0) hh
  have d2 := cell_of_row _ _ 2 _ _ (0, 0) hh
  have d3 := cell_of_row _ _ 3 _ _ (0, 0) hh
  have d4 := cell_of_row _ _ 4 _ _ (0, 0) hh
  refine bodyPost_ret (v := aggH { h with A := A', c := c' }) ?_ rfl ⟨A', c', rfl, (HR7.out.but hbut (fun k e hk => by have := HZ3.out; omega)).imp (fun b hb => by have := HZ3.out; omega), HB7.out.1.trans (hbut.below HB7.out.1.size (fun k hk e => by omega))⟩
  simp [results, Try.results27, go_sem, d0, d1, d2, d3, d4]
set_option maxRecDepth 100000 in
set_option maxHeartbeats 1000000 in
theorem new_any (w : World) : Calls Try.prog 9 #[] w fun e w' => ∃ B mb, e = .returned (.pointer (some ⟨B, 0, none⟩)) ∧ HldAt w' B mb 0 [] ∧ w.heap.size ≤ B ∧ w.heap.size ≤ mb ∧ mb < w'.heap.size ∧ Below w.heap.size w w' := by
  have hmm := @run_makeMap Try.prog
  have hb0 := bel_alloc w (.map #[] 0)
  have hb1 := bel_alloc (w.alloc (.map #[] 0)) (.cells #[.map (some w.heap.size)] hsT)
  have hm : MapI (w.alloc (.map #[] 0)) w.heap.size 0 (gH []) := MapK.made w Try.prog 3 enI
  have HR : Hid (HldAt ((w.alloc (.map #[] 0)).alloc (.cells #[.map (some w.heap.size)] hsT)) (w.alloc (.map #[] 0)).heap.size w.heap.size 0 []) := Lib.hid ⟨(cells_new _ _ hsT 0).trans rfl, hm.more hb1, SrtH.nil, fun h hh => by cases hh⟩
  have HB := Lib.hid (hb0.trans (hb1.mono hb0.size))
  clear hb0 hb1 hm
  go_enter Try.func9, Try.ntmps9
  go_wp2
  go_ret
  exact ⟨_, _, by first | rfl | simp, HR.out, by simp, Nat.le_refl _, by (simp; try omega), HB.out⟩
end Go.Proofs.Ythillkbcbklhaaa
