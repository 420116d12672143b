/- Words and walks that the laws below ask: PerE, CalB, CalC, CalE, PerT, FliI. -/
import Derived.RangeFuncBox
import Derived.Deep.WholeRow
import Derived.BigQuiet
import Derived.Deep.QuietTactic
import Derived.Laws.Concat
import Derived.Test.YtfgmlbmjjihhfaaGreatDoorPk1
import Derived.Test.YtfgmlbmjjihhfaaGreatDoorPk4
import Derived.Test.YtfgmlbmjjihhfaaGreatDoorPk5
/- Walks of the three loops over the days of a period: Count, Days, Normal. -/
namespace Go.Proofs.YtfgmlbmjjihhfaaGreatDoor.Per
open Go.RowKit Go.Shelf
set_option linter.unusedSimpArgs false
set_option linter.unusedVariables false
attribute [local go_sem] Oper.semAt_some
attribute [local simp] wide_fn

/-- 'a block holds these cells' speaks of cells alone -/
theorem cells_own {β : Type} (B : Nat) (t : TypeId) (g : β → Array Value) : Own (fun s W => W.heap[B]? = some (.cells (g s) t (0, 0))) := fun s X Y row hs hg hrow =>
  (hg.block B (Array.getElem?_eq_some_iff.1 hs).1 (fun e' => by obtain ⟨o, ho, hc⟩ := hrow B e'.symm; rw [hs] at ho; cases ho; cases hc)).trans hs
theorem boxAt_own {β : Type} (B : Nat) (p : Per) : Own (fun (_ : β) W => BoxAt W B p) := cells_own B perT fun _ => #[.int .i64 p.1, .int .i64 p.2.1, .int .i64 p.2.2]
theorem zip_one (t : Array Value) (n : Nat) (v : Value) : Array.foldl (fun (t : Array Value) (x : Nat × Value) => t.setIfInBounds x.1 x.2) t (#[n].zip #[v]) = t.setIfInBounds n v := by simp
theorem BoxAt.set {W : World} {B B' : Nat} {p : Per} (h : BoxAt W B p) (hne : B ≠ B') (j : Nat) (u : Value) : BoxAt (W.setCell ⟨B', j, none⟩ u) B p := (Below.heap_setCell _ _ _ B hne).trans h

theorem BoxAt.not_row {W : World} {B : Nat} {p : Per} (h : BoxAt W B p) {e : TypeId} (hte : perT ≠ e) {base size k : Nat} {v : Value} {xs : List Value} (hr : W.ownsRow base e size v k xs) : some B ≠ v.ownBlock := by
  rcases hr.2 with ⟨rfl, _⟩ | ⟨g, cap, cur, rfl, _, hgb, _⟩
  · simp [Value.ownBlock]
  · intro e'
    obtain rfl : B = g := by simpa [Value.ownBlock] using e'
    have := (show W.heap[B]? = _ from h).symm.trans hgb
    simp at this
    exact hte this.2

set_option maxRecDepth 100000 in
set_option maxHeartbeats 2000000 in
theorem days_in (p : Per) (w : World) : CallsIn Fence.wide 10 Tryz.prog 106 #[encQ p] w fun e W' => ∃ v, e = .returned v ∧ W'.ownsRow w.heap.size 3 1 v (daysQ p).length ((daysQ p).map (Value.int .i64)) ∧ Below w.heap.size w W' := by
  obtain ⟨i0, hi, hz0, hz1, hz2⟩ := info_parts info_int
  refine callsIn_of_wp_marks Tryz.func106 rfl trivial ?_ rfl
  simp only [Tryz.ntmps106, List.size_toArray, List.length_cons, List.length_nil, Nat.reduceAdd, Nat.reduceSub, Array.replicate_succ, Array.replicate_zero, List.push_toArray, List.append_toArray, List.nil_append, List.cons_append]
  gi_wp2_with (gi_at_call 165; refine (each_any p _).mono ?_; rintro e w' ⟨rfl, rfl⟩)
  obtain ⟨W0, hW0⟩ : ∃ W0, W0 = ((w.alloc (.cells #[.int .i64 p.1, .int .i64 p.2.1, .int .i64 p.2.2] perT)).alloc (.cells #[.slice none 0 0] 81)).alloc (.cells #[.int .i64 p.1, .int .i64 p.2.1, .int .i64 p.2.2] perT) := ⟨_, rfl⟩
  have hsz : W0.heap.size = w.heap.size + 3 := by rw [hW0]; simp
  have bP : BoxAt W0 (w.heap.size + 1 + 1) p := by
    rw [hW0]
    have h := heap_alloc_new ((w.alloc (.cells #[.int .i64 p.1, .int .i64 p.2.1, .int .i64 p.2.2] perT)).alloc (.cells #[.slice none 0 0] 81)) (.cells #[.int .i64 p.1, .int .i64 p.2.1, .int .i64 p.2.2] perT)
    simp only [World.size_alloc] at h
    exact h
  have bN : Boxed W0 (w.heap.size + 1) 81 (.slice none 0 0) := by
    rw [hW0]
    have h := Boxed.new (w.alloc (.cells #[.int .i64 p.1, .int .i64 p.2.1, .int .i64 p.2.2] perT)) 81 (.slice none 0 0)
    simp only [World.size_alloc] at h
    exact h.alloc _
  have hB0 : Below w.heap.size w W0 := by
    rw [hW0]
    exact (((Below.refl _ w).alloc (Nat.le_refl _) _).alloc (by simp) _).alloc (by simp; omega) _
  rw [show ((w.alloc (.cells #[.int .i64 p.1, .int .i64 p.2.1, .int .i64 p.2.2] perT)).alloc (.cells #[.slice none 0 0] 81)).alloc (.cells #[.int .i64 p.1, .int .i64 p.2.1, .int .i64 p.2.2] perT) = W0 from hW0.symm]
  clear hW0
  refine wpIn_rangeFunc_ownG rfl (by omega) (gf := 205) (lb := #[.pointer (some ⟨w.heap.size + 1 + 1, 0, none⟩)]) rfl trivial (enters_of Tryz.func205 (by kernel_rfl) rfl)
    (each_stops (w.heap.size + 1 + 1) w.heap.size p W0 bP) kp_t (kp_b (by omega) (by omega)) (Below.refl _ _) (fun _ => rfl)
    (fun pre W => ((∃ v, Boxed W (w.heap.size + 1) 81 v ∧ W.ownsRow w.heap.size 3 1 v (vals pre).length ((vals pre).map (Value.int .i64)) ∧ True) ∧ BoxAt W (w.heap.size + 1 + 1) p) ∧ Below w.heap.size w W)
    (fun _ _ _ => False)
    (OwnFrom.and (OwnFrom.and (Own.from (holdsRow_own w.heap.size (w.heap.size + 1) 81 3 1 (fun pre : List Dy => (vals pre).length) (fun pre => (vals pre).map (Value.int .i64)) (fun _ _ => True)) _) (Own.from (boxAt_own _ p) _)) (ownFrom_below (Nat.le_refl _) (by omega)))
    (fun _ _ _ _ _ hs _ _ => hs)
    ⟨⟨⟨_, bN, World.ownsRow_nil _ _ _ _, trivial⟩, bP⟩, hB0⟩
    (fun x => { tmps := #[encQ p, .pointer (some ⟨w.heap.size, 0, none⟩), .slice none 0 0, .pointer (some ⟨w.heap.size + 1, 0, none⟩), .int .i64 x.1, encQ p, .func (.func 205) #[] #[.pointer (some ⟨w.heap.size + 1 + 1, 0, none⟩)], .int .i64 x.1, undef, undef, undef, undef, undef], defers := [] }) ?assign ?body ?done ?stop
  case assign =>
    intro l x W K hK
    dsimp only [encD]
    rw [zip_one]
    gi_wp2
    exact hK
  case body =>
    rintro l pre x W ⟨⟨⟨v, hv, hrow, _⟩, hbp⟩, hB⟩ hlt
    have hc := hv.cell
    have hpl : (vals pre).length < 800 := by rw [vals_len]; exact hlt
    have hle : w.heap.size ≤ w.heap.size + 1 := by omega
    gi_wp2_with (gi_at_builtin; refine wpListIn_append_own _ rfl _ _ 81 rfl w.heap.size 3 i0 (.int .i64 0) 1 8 Tryz.underlying81 hi hz0 hz1 hz2 rfl (by decide) _ _ _ rfl (hrow.alloc _) ⟨W.heap.size, 0, none⟩ 1 1 [.int .i64 x.1] rfl rfl (cell_one_new _ _ _) (by simp [Value.oneCell']) (by unfold maxLen; omega) (by omega) (by have := hB.size; simp; omega) ?_; intro v' w1 hown' hgrow _; obtain ⟨g', cap', rfl⟩ := ownsRow_succ hown'; obtain ⟨hv1, hv2, hr2, hk2, hb2⟩ := hv.appended (by decide) hrow hB.size hle hown' hgrow; have hP1 : BoxAt w1 (w.heap.size + 1 + 1) p := (hgrow.block _ (Nat.lt_of_lt_of_le hbp.lt (by simp)) (hbp.not_row (by decide) hrow)).trans ((bel_alloc W _).block _ hbp.lt |>.trans hbp); have hc1 := hv1.cell; have hf1 := hv1.frozen)
    refine ⟨hk2.from _, ⟨hb2, (hP1.set (by simp) 0 _).trans hbp.symm⟩, ⟨⟨_, hv2, ?_, trivial⟩, hP1.set (by simp) 0 _⟩, hB.trans hb2⟩
    rw [vals_snoc]
    simpa using hr2
  case done =>
    rintro D ys W hD hys ⟨⟨⟨v, hv, hrow, _⟩, hbp⟩, hB⟩ hK
    have hc := hv.cell
    gi_wp2
    refine ⟨by simp, .inl ⟨_, _, rfl, run_takeDeferred hK, ?_⟩⟩
    rw [hys] at hrow
    exact ⟨_, results_tmp rfl _ _ _, v, rfl, ownsRow_putObj hrow _ hK rfl, hB.trans (belowK_b (w := w) (Nat.le_refl _) W D _ _ (by omega) hK rfl rfl)⟩
  case stop =>
    rintro D c pre W _ _ h _
    exact h.elim

end Go.Proofs.YtfgmlbmjjihhfaaGreatDoor.Per

/- Walks of calendar.Day and calendar.Date. -/
namespace Go.Proofs.YtfgmlbmjjihhfaaGreatDoor
open Go.RowKit
set_option linter.unusedSimpArgs false
set_option linter.unusedVariables false

/-- the array of the days of the months as a value of which only the cells are known -/
theorem months_of (y : Int) (w : World) (h0 : 2000 ≤ y) (h1 : y ≤ 2100) {A : Array Value} (hA : Hid (A = lensA y)) :
    Calls Tryz.prog 209 #[.int .i64 y] w fun e w' => e = .returned (.agg A) ∧ Below w.heap.size w w' :=
  (months_any y w h0 h1).mono (by
    rintro e w' ⟨rfl, rfl⟩
    exact ⟨by rw [hA.out], ((Below.refl _ _).alloc (Nat.le_refl _) _).alloc (by show w.heap.size ≤ (w.heap.push _).size; rw [Array.size_push]; omega) _⟩)
abbrev zeros : Array Value := #[.int .i64 0, .int .i64 0, .int .i64 0, .int .i64 0, .int .i64 0, .int .i64 0, .int .i64 0, .int .i64 0, .int .i64 0, .int .i64 0, .int .i64 0, .int .i64 0]
theorem info_months : (Tryz.prog.info? 224).map (·.size) = some 12 := by kernel_rfl
theorem store_months {y : Int} {A : Array Value} (hA : Hid (A = lensA y)) (w : World) :
    (storeCells ⟨w.heap.size, 0, none⟩ A.toList 0).run Tryz.prog (w.alloc (.cells zeros 224)) = .ok () (w.alloc (.cells A 224)) := by
  have e := hA.out
  subst e
  exact run_storeCells_new w _ zeros (lensA y) info_months rfl (by simp [lensA, Value.oneCell'])
theorem month_at {y : Int} {A : Array Value} (hA : Hid (A = lensA y)) (i : Nat) (h : i < 12) : A[i]? = some (.int .i64 (lenP y ((i : Int) + 1))) := by rw [hA.out]; exact lensA_at y i h
theorem month_size {y : Int} {A : Array Value} (hA : Hid (A = lensA y)) : A.size = 12 := by rw [hA.out]; rfl

set_option maxRecDepth 100000 in
set_option maxHeartbeats 1000000 in
theorem day_any (y m d : Int) (w : World) : Calls Tryz.prog 193 #[.int .i64 y, .int .i64 m, .int .i64 d] w fun e w' => e = .returned (.tuple #[.int .i64 (dayR y m d).1, .int .i64 (dayR y m d).2]) ∧ Below w.heap.size w w' := by
  by_cases hy : 2000 ≤ y ∧ y ≤ 2099 ∧ 1 ≤ m ∧ m ≤ 12
  · obtain ⟨y0, y1, m0, m1⟩ := hy
    obtain ⟨A, hA⟩ : ∃ A, Hid (A = lensA y) := ⟨_, Lib.hid rfl⟩
    have hst := store_months hA
    have hsz := month_size hA
    have hm : A[m.toNat - 1]? = some (.int .i64 (lenP y m)) := by
      have h := month_at hA (m.toNat - 1) (by omega)
      have e : ((m.toNat - 1 : Nat) : Int) + 1 = m := by omega
      rwa [e] at h
    obtain ⟨L, hL⟩ : ∃ L, Hid (L = lenP y m) := ⟨_, Lib.hid rfl⟩
    rw [← hL.out] at hm
    by_cases c5 : d < 1
    · have HR : Hid (dayR y m d = (0, 12)) := Lib.hid (by rw [dayR, if_neg]; rw [ok_not (by omega)]; simp)
      go_enter Tryz.func193, Tryz.ntmps193
      go_wp2_with (go_at_call 209; refine (months_of _ _ (by omega) (by omega) hA).mono ?_; rintro e wl ⟨rfl, hb⟩)
      go_ret2
      exact ⟨by rw [HR.out]; rfl, hb.alloc hb.size _⟩
    by_cases c6 : L < d
    · have HR : Hid (dayR y m d = (0, 12)) := Lib.hid (by have := hL.out; rw [dayR, if_neg]; rw [ok_not (by omega)]; simp)
      go_enter Tryz.func193, Tryz.ntmps193
      go_wp2_with (go_at_call 209; refine (months_of _ _ (by omega) (by omega) hA).mono ?_; rintro e wl ⟨rfl, hb⟩)
      go_ret2
      exact ⟨by rw [HR.out]; rfl, hb.alloc hb.size _⟩
    have HR : Hid (dayR y m d = (ysP y + befP y m + d - 1, 0)) := Lib.hid (by have := hL.out; rw [dayR, if_pos (ok_mk (by omega))]; rfl)
    have hyb : 0 ≤ ysP y ∧ ysP y ≤ 36525 := by
      have e := ys_mono 2000 y y0
      have f := ys_mono y 2100 (by omega)
      rw [ys_first] at e
      rw [ys_last] at f
      exact ⟨e, f⟩
    have hLb : L ≤ 31 := by have := hL.out; have := len_range y m; omega
    go_enter Tryz.func193, Tryz.ntmps193
    go_wp2_with (first | (go_at_call 208; refine (yearStart_any _ _ (by omega) (by omega)).mono ?_; rintro e w' ⟨rfl, rfl⟩) | (go_at_call 209; refine (months_of _ _ (by omega) (by omega) hA).mono ?_; rintro e wl ⟨rfl, hb⟩))
    go_loop [9, 10, 44] (fun n v10 i => ∃ (k : Nat) (acc : Int), k + 1 ≤ m.toNat ∧ i = .int .i64 k ∧ n = .int .i64 acc ∧ 0 ≤ acc ∧ acc ≤ 36600 + 31 * k ∧ Hid (acc = ysP y + befP y (k + 1) + d - 1)) (fun _ _ i => m.toNat - (intOf i).toNat)
    case atStart => exact ⟨0, ysP y + d - 1, by omega, rfl, rfl, by omega, by omega, Lib.hid (by have := bef_one y; simp only [Int.natCast_zero, Int.zero_add, this]; omega)⟩
    case round =>
      obtain ⟨k, acc, hk, rfl, rfl, a0, a1, HK⟩ := hrel
      by_cases hlt : k + 1 < m.toNat
      · have hk2 : A[k]? = some (.int .i64 (lenP y ((k : Int) + 1))) := month_at hA k (by omega)
        have i1 : (k : Int) < m - 1 := by omega
        have i2 : k < 12 := by omega
        have i3 : (k : Int) < 12 := by omega
        have hb2 := len_range y ((k : Int) + 1)
        have HN := Lib.hid (bef_next y ((k : Int) + 1) (by omega) (by omega))
        obtain ⟨x, hx⟩ : ∃ x, Hid (x = lenP y ((k : Int) + 1)) := ⟨_, Lib.hid rfl⟩
        have hk3 : ∀ h : k < A.size, A[k]'h = .int .i64 (lenP y ((k : Int) + 1)) := fun h => by
          have e := hk2
          rw [Array.getElem?_eq_getElem h] at e
          injection e
        rw [← hx.out] at hk2 hk3 hb2
        go_wp2
        go_round
        case rel => exact ⟨k + 1, acc + x, by omega, by go_num, rfl, by omega, by omega, Lib.hid (by have := HK.out; have := HN.out; have := hx.out; push_cast; omega)⟩
        case measure => simp [intOf]; omega
      · have i1 : ¬ (k : Int) < m - 1 := by omega
        have HE : Hid (acc = ysP y + befP y m + d - 1) := Lib.hid (by have e : m = (k : Int) + 1 := by omega
                                                                      rw [e]; exact HK.out)
        go_wp2
        go_ret2
        exact ⟨by rw [HR.out, HE.out]; rfl, hb.alloc hb.size _⟩
  · have HR : Hid (dayR y m d = (0, 12)) := Lib.hid (by rw [dayR, if_neg]; rw [ok_not (by omega)]; simp)
    by_cases c1 : y < 2000
    · go_enter Tryz.func193, Tryz.ntmps193
      go_wp2
      go_ret2
      exact ⟨by rw [HR.out]; rfl, Below.refl _ _⟩
    by_cases c2 : 2099 < y
    · go_enter Tryz.func193, Tryz.ntmps193
      go_wp2
      go_ret2
      exact ⟨by rw [HR.out]; rfl, Below.refl _ _⟩
    by_cases c3 : m < 1
    · go_enter Tryz.func193, Tryz.ntmps193
      go_wp2
      go_ret2
      exact ⟨by rw [HR.out]; rfl, Below.refl _ _⟩
    · have c4 : 12 < m := by omega
      clear hy
      go_enter Tryz.func193, Tryz.ntmps193
      go_wp2
      go_ret2
      exact ⟨by rw [HR.out]; rfl, Below.refl _ _⟩

set_option maxRecDepth 100000 in
set_option maxHeartbeats 1000000 in
theorem date_any (n : Int) (w : World) : Calls Tryz.prog 172 #[.int .i64 n] w fun e w' => e = .returned (.tuple #[.int .i64 (dateR n).1, .int .i64 (dateR n).2.1, .int .i64 (dateR n).2.2]) ∧ Below w.heap.size w w' := by
  cases hd : isDayB n
  · have HR : Hid (dateR n = (0, 0, 0)) := Lib.hid (date_out hd)
    go_enter Tryz.func172, Tryz.ntmps172
    go_wp2_with (go_at_call 171; refine (isDay_any _ _).mono ?_; rintro e w' ⟨rfl, rfl⟩)
    go_ret3
    exact ⟨by rw [HR.out]; rfl, Below.refl _ _⟩
  · have hn : 0 ≤ n ∧ n < 36525 := by simpa [isDayB] using hd
    have hy : 2000 ≤ yOf n ∧ yOf n ≤ 2099 := by unfold yOf; omega
    have HY := Lib.hid (yOf_in n)
    have hE : 2000 + 4 * n / 1461 = yOf n := rfl
    obtain ⟨y, hy1⟩ : ∃ y, yOf n = y := ⟨_, rfl⟩
    rw [hy1] at hy HY hE
    have HY1 := Lib.hid hy1
    clear hy1
    obtain ⟨A, hA⟩ : ∃ A, Hid (A = lensA y) := ⟨_, Lib.hid rfl⟩
    have hst := store_months hA
    have hsz := month_size hA
    have hY : 0 ≤ ysP y ∧ ysP y ≤ n ∧ n - ysP y ≤ 365 := by
      have a := HY.out
      have b := ys_next y
      have c := bef_all y
      have d := lp_two y
      have e := ys_mono 2000 y (by omega)
      rw [ys_first] at e
      omega
    have hY2 : Hid (n - ysP y < befP y 13) := Lib.hid (by have a := HY.out; have b := ys_next y; omega)
    go_enter Tryz.func172, Tryz.ntmps172
    go_wp2_with (first | (go_at_call 171; refine (isDay_any _ _).mono ?_; rintro e w' ⟨rfl, rfl⟩) | (go_at_call 208; refine (yearStart_any _ _ (by omega) (by omega)).mono ?_; rintro e w' ⟨rfl, rfl⟩) | (go_at_call 209; refine (months_of _ _ (by omega) (by omega) hA).mono ?_; rintro e wl ⟨rfl, hb⟩))
    go_loopw [6, 7, 9, 23] (fun vm vr v9 vi wr => ∃ (k : Nat) (r : Int), k ≤ 11 ∧ vi = .int .i64 k ∧ vm = .int .i64 ((k : Int) + 1) ∧ vr = .int .i64 r ∧ 0 ≤ r ∧ r ≤ 365 ∧ Hid (r = n - ysP y - befP y (k + 1)) ∧ ∃ c, wr = (wl.alloc (.cells A 224)).drewN c) (fun _ _ _ i _ => 11 - (intOf i).toNat)
    case atStart => exact ⟨0, n - ysP y, by omega, rfl, rfl, rfl, by omega, by omega, Lib.hid (by have := bef_one y; simp only [Int.natCast_zero, Int.zero_add, this]; omega), 0, rfl⟩
    case round =>
      obtain ⟨k, r, hk, rfl, rfl, rfl, r0, r1, HK, c, rfl⟩ := hrel
      by_cases hlt : k < 11
      · have hk2 : A[k]? = some (.int .i64 (lenP y ((k : Int) + 1))) := month_at hA k (by omega)
        have i1 : (k : Int) < 11 := by omega
        have i2 : k < 12 := by omega
        have i3 : (k : Int) < 12 := by omega
        have hb2 := len_range y ((k : Int) + 1)
        have HN := Lib.hid (bef_next y ((k : Int) + 1) (by omega) (by omega))
        obtain ⟨x, hx⟩ : ∃ x, Hid (x = lenP y ((k : Int) + 1)) := ⟨_, Lib.hid rfl⟩
        have hk3 : ∀ h : k < A.size, A[k]'h = .int .i64 (lenP y ((k : Int) + 1)) := fun h => by
          have e := hk2
          rw [Array.getElem?_eq_getElem h] at e
          injection e
        rw [← hx.out] at hk2 hk3 hb2
        by_cases hr : r < x
        · have HR : Hid (dateR n = (y, (k : Int) + 1, r + 1)) := Lib.hid (by
            have a := hx.out
            have b := HK.out
            exact date_of (ok_mk (by omega)) (by unfold numP; omega))
          go_wp2
          go_ret3
          exact ⟨by rw [HR.out]; rfl, below_drewN (hb.alloc hb.size _) _⟩
        · go_wp2
          go_quiet (fail)
          go_wp2
          go_roundw
          case rel => exact ⟨k + 1, r - x, by omega, by go_num, by go_num, rfl, by omega, by omega, Lib.hid (by have := HK.out; have := HN.out; have := hx.out; push_cast; omega), _, rfl⟩
          case measure => simp [intOf]; omega
      · have e : k = 11 := by omega
        have HR : Hid (dateR n = (y, 12, r + 1)) := Lib.hid (by
          subst e
          have a := hY2.out
          have b := HK.out
          have c : befP y 13 = befP y 12 + lenP y 12 := bef_next y 12 (by omega) (by omega)
          have d : ((11 : Nat) : Int) + 1 = 12 := rfl
          rw [d] at b
          exact date_of (ok_mk (by omega)) (by unfold numP; omega))
        subst e
        go_wp2
        go_ret3
        exact ⟨by rw [HR.out]; rfl, below_drewN (hb.alloc hb.size _) _⟩

end Go.Proofs.YtfgmlbmjjihhfaaGreatDoor

/- Walks of the reference's Length, Day and Date. -/
namespace Go.Proofs.YtfgmlbmjjihhfaaGreatDoor
open Go.RowKit
set_option linter.unusedSimpArgs false
set_option linter.unusedVariables false

set_option maxHeartbeats 1000000 in
theorem rlen_any (y m : Int) (w : World) (h0 : 0 ≤ y) (h1 : y ≤ 3000) : Calls Tryz.prog 175 #[.int .i64 y, .int .i64 m] w fun e w' => e = .returned (.int .i64 (lenP y m)) ∧ w = w' := by
  by_cases c : m = 4 ∨ m = 6 ∨ m = 9 ∨ m = 11
  · have HR : Hid (lenP y m = 30) := Lib.hid (by rw [lenP, if_pos c])
    rcases c with rfl | rfl | rfl | rfl
    all_goals
      go_enter Tryz.func175, Tryz.ntmps175
      go_wp2
      go_ret
      exact ⟨by rw [HR.out]; rfl, rfl⟩
  have a1 : (m == 4) = false := by rw [beq_eq_false_iff_ne]; omega
  have a2 : (m == 6) = false := by rw [beq_eq_false_iff_ne]; omega
  have a3 : (m == 9) = false := by rw [beq_eq_false_iff_ne]; omega
  have a4 : (m == 11) = false := by rw [beq_eq_false_iff_ne]; omega
  by_cases c2 : m = 2
  · subst c2
    by_cases c3 : y % 4 = 0
    · have HR : Hid (lenP y 2 = 29) := Lib.hid (by simp [lenP, c3])
      go_enter Tryz.func175, Tryz.ntmps175
      go_wp2
      go_ret
      exact ⟨by rw [HR.out]; rfl, rfl⟩
    · have HR : Hid (lenP y 2 = 28) := Lib.hid (by simp [lenP, c3])
      go_enter Tryz.func175, Tryz.ntmps175
      go_wp2
      go_ret
      exact ⟨by rw [HR.out]; rfl, rfl⟩
  · have HR : Hid (lenP y m = 31) := Lib.hid (by rw [lenP, if_neg c, if_neg c2])
    have a5 : (m == 2) = false := by rw [beq_eq_false_iff_ne]; exact c2
    clear c c2
    go_enter Tryz.func175, Tryz.ntmps175
    go_wp2
    go_ret
    exact ⟨by rw [HR.out]; rfl, rfl⟩

set_option maxRecDepth 100000 in
set_option maxHeartbeats 1000000 in
theorem rday_any (y m d : Int) (w : World) : Calls Tryz.prog 198 #[.int .i64 y, .int .i64 m, .int .i64 d] w fun e w' => e = .returned (.tuple #[.int .i64 (dayR y m d).1, .int .i64 (dayR y m d).2]) ∧ w = w' := by
  by_cases hy : 2000 ≤ y ∧ y ≤ 2099 ∧ 1 ≤ m ∧ m ≤ 12
  · obtain ⟨y0, y1, m0, m1⟩ := hy
    obtain ⟨L, hL⟩ : ∃ L, Hid (L = lenP y m) := ⟨_, Lib.hid rfl⟩
    have CL : Hid (∀ w, Calls Tryz.prog 175 #[.int .i64 y, .int .i64 m] w fun e w' => e = .returned (.int .i64 L) ∧ w = w') := Lib.hid (fun w => by rw [hL.out]; exact rlen_any y m w (by omega) (by omega))
    by_cases c5 : d < 1
    · have HR : Hid (dayR y m d = (0, 12)) := Lib.hid (by rw [dayR, if_neg]; rw [ok_not (by omega)]; simp)
      go_enter Tryz.func198, Tryz.ntmps198
      go_wp2
      go_ret2
      exact ⟨by rw [HR.out]; rfl, rfl⟩
    by_cases c6 : L < d
    · have HR : Hid (dayR y m d = (0, 12)) := Lib.hid (by have := hL.out; rw [dayR, if_neg]; rw [ok_not (by omega)]; simp)
      go_enter Tryz.func198, Tryz.ntmps198
      go_wp2_with (go_at_call 175; refine (CL.out _).mono ?_; rintro e w' ⟨rfl, rfl⟩)
      go_ret2
      exact ⟨by rw [HR.out]; rfl, rfl⟩
    have HR : Hid (dayR y m d = (ysP y + befP y m + d - 1, 0)) := Lib.hid (by have := hL.out; rw [dayR, if_pos (ok_mk (by omega))]; rfl)
    have hLb : L ≤ 31 := by have := hL.out; have := len_range y m; omega
    go_enter Tryz.func198, Tryz.ntmps198
    go_wp2_with (go_at_call 175; refine (CL.out _).mono ?_; rintro e w' ⟨rfl, rfl⟩)
    go_loop [8, 9] (fun vn vy => ∃ (z acc : Int), 2000 ≤ z ∧ z ≤ y ∧ vy = .int .i64 z ∧ vn = .int .i64 acc ∧ 0 ≤ acc ∧ acc ≤ 40 + 400 * (z - 2000) ∧ Hid (acc = ysP z + d - 1)) (fun _ vy => (y - intOf vy).toNat)
    case atStart => exact ⟨2000, d - 1, by omega, by omega, rfl, rfl, by omega, by omega, Lib.hid (by rw [ys_first]; omega)⟩
    case round =>
      obtain ⟨z, acc, z0, z1, rfl, rfl, a0, a1, HK⟩ := hrel
      by_cases hlt : z < y
      · go_wp2
        go_loop [8, 10] (fun vn vm => ∃ (k : Nat) (b : Int), 1 ≤ k ∧ k ≤ 13 ∧ vm = .int .i64 k ∧ vn = .int .i64 b ∧ 0 ≤ b ∧ b ≤ 40 + 400 * (z - 2000) + 31 * (k - 1) ∧ Hid (b = ysP z + d - 1 + befP z k)) (fun _ vm => 13 - (intOf vm).toNat)
        case atStart => exact ⟨1, acc, by omega, by omega, rfl, rfl, by omega, by omega, Lib.hid (by have := HK.out; have := bef_one z; simp only [Int.natCast_one, this]; omega)⟩
        case round =>
          obtain ⟨k, b, k0, k1, rfl, rfl, b0, b1, HB⟩ := hrel
          by_cases hk : k ≤ 12
          · have i1 : (k : Int) ≤ 12 := by omega
            obtain ⟨x, hx⟩ : ∃ x, Hid (x = lenP z k) := ⟨_, Lib.hid rfl⟩
            have hb2 := len_range z k
            rw [← hx.out] at hb2
            have CX : Hid (∀ w, Calls Tryz.prog 175 #[.int .i64 z, .int .i64 k] w fun e w' => e = .returned (.int .i64 x) ∧ w = w') := Lib.hid (fun w => by rw [hx.out]; exact rlen_any z k w (by omega) (by omega))
            have HN := Lib.hid (bef_next z k (by omega) (by omega))
            go_wp2_with (go_at_call 175; refine (CX.out _).mono ?_; rintro e w' ⟨rfl, rfl⟩)
            go_round
            case rel => exact ⟨k + 1, b + x, by omega, by omega, by go_num, rfl, by omega, by omega, Lib.hid (by have := HB.out; have := HN.out; have := hx.out; push_cast; omega)⟩
            case measure => simp [intOf]; omega
          · have e : k = 13 := by omega
            subst e
            have HB2 : Hid (b = ysP (z + 1) + d - 1) := Lib.hid (by
              have e : b = ysP z + d - 1 + befP z 13 := HB.out
              have f := ys_next z
              omega)
            have b1' : b ≤ 40 + 400 * (z - 2000) + 372 := by omega
            clear HB b1
            go_wp2
            go_round
            case rel => exact ⟨z + 1, b, by omega, by omega, rfl, rfl, by omega, by omega, HB2⟩
            case measure => simp [intOf]; omega
      · have e : z = y := by omega
        subst e
        have hacc : acc ≤ 40000 := by omega
        go_wp2
        go_loop [8, 11] (fun vn vm => ∃ (k : Nat) (b : Int), 1 ≤ k ∧ (k : Int) ≤ m ∧ vm = .int .i64 k ∧ vn = .int .i64 b ∧ 0 ≤ b ∧ b ≤ 40000 + 31 * k ∧ Hid (b = ysP z + d - 1 + befP z k)) (fun _ vm => (m - intOf vm).toNat)
        case atStart => exact ⟨1, acc, by omega, by omega, rfl, rfl, by omega, by omega, Lib.hid (by have := HK.out; have := bef_one z; simp only [Int.natCast_one, this]; omega)⟩
        case round =>
          obtain ⟨k, b, k0, k1, rfl, rfl, b0, b1, HB⟩ := hrel
          by_cases hk : (k : Int) < m
          · obtain ⟨x, hx⟩ : ∃ x, Hid (x = lenP z k) := ⟨_, Lib.hid rfl⟩
            have hb2 := len_range z k
            rw [← hx.out] at hb2
            have CX : Hid (∀ w, Calls Tryz.prog 175 #[.int .i64 z, .int .i64 k] w fun e w' => e = .returned (.int .i64 x) ∧ w = w') := Lib.hid (fun w => by rw [hx.out]; exact rlen_any z k w (by omega) (by omega))
            have HN := Lib.hid (bef_next z k (by omega) (by omega))
            go_wp2_with (go_at_call 175; refine (CX.out _).mono ?_; rintro e w' ⟨rfl, rfl⟩)
            go_round
            case rel => exact ⟨k + 1, b + x, by omega, by omega, by go_num, rfl, by omega, by omega, Lib.hid (by have := HB.out; have := HN.out; have := hx.out; push_cast; omega)⟩
            case measure => simp [intOf]; omega
          · have e : (k : Int) = m := by omega
            have HE : Hid (b = ysP z + befP z m + d - 1) := Lib.hid (by have h := HB.out; rw [e] at h; omega)
            clear e
            go_wp2
            go_ret2
            exact ⟨by rw [HR.out, HE.out]; rfl, rfl⟩
  · have HR : Hid (dayR y m d = (0, 12)) := Lib.hid (by rw [dayR, if_neg]; rw [ok_not (by omega)]; simp)
    by_cases c1 : y < 2000
    · go_enter Tryz.func198, Tryz.ntmps198
      go_wp2
      go_ret2
      exact ⟨by rw [HR.out]; rfl, rfl⟩
    by_cases c2 : 2099 < y
    · go_enter Tryz.func198, Tryz.ntmps198
      go_wp2
      go_ret2
      exact ⟨by rw [HR.out]; rfl, rfl⟩
    by_cases c3 : m < 1
    · go_enter Tryz.func198, Tryz.ntmps198
      go_wp2
      go_ret2
      exact ⟨by rw [HR.out]; rfl, rfl⟩
    · have c4 : 12 < m := by omega
      clear hy
      go_enter Tryz.func198, Tryz.ntmps198
      go_wp2
      go_ret2
      exact ⟨by rw [HR.out]; rfl, rfl⟩

set_option maxRecDepth 100000 in
set_option maxHeartbeats 1000000 in
theorem rdate_any (n : Int) (w : World) : Calls Tryz.prog 125 #[.int .i64 n] w fun e w' => e = .returned (.tuple #[.int .i64 (dateR n).1, .int .i64 (dateR n).2.1, .int .i64 (dateR n).2.2]) ∧ w = w' := by
  by_cases hn : 0 ≤ n ∧ n < 36525
  · go_enter Tryz.func125, Tryz.ntmps125
    go_wp2
    go_loop [0, 5, 6] (fun vr vy vm => ∃ (y m r : Int), 2000 ≤ y ∧ y ≤ 2099 ∧ 1 ≤ m ∧ m ≤ 12 ∧ 0 ≤ r ∧ r ≤ 36525 ∧ vy = .int .i64 y ∧ vm = .int .i64 m ∧ vr = .int .i64 r ∧ Hid (n = ysP y + befP y m + r)) (fun vr _ _ => (intOf vr).toNat)
    case atStart => exact ⟨2000, 1, n, by omega, by omega, by omega, by omega, by omega, by omega, rfl, rfl, rfl, Lib.hid (by rw [ys_first, bef_one]; omega)⟩
    case round =>
      obtain ⟨y, m, r, y0, y1, m0, m1, r0, r1, rfl, rfl, rfl, HK⟩ := hrel
      obtain ⟨x, hx⟩ : ∃ x, Hid (x = lenP y m) := ⟨_, Lib.hid rfl⟩
      have hb2 := len_range y m
      rw [← hx.out] at hb2
      have CX : Hid (∀ w, Calls Tryz.prog 175 #[.int .i64 y, .int .i64 m] w fun e w' => e = .returned (.int .i64 x) ∧ w = w') := Lib.hid (fun w => by rw [hx.out]; exact rlen_any y m w (by omega) (by omega))
      by_cases hr : x ≤ r
      · have HN := Lib.hid (bef_next y m m0 m1)
        by_cases hm : m = 12
        · have HK2 : Hid (n = ysP (y + 1) + befP (y + 1) 1 + (r - x)) := Lib.hid (by
            have a := HK.out
            have b := HN.out
            have c := ys_next y
            have e := hx.out
            have f := bef_one (y + 1)
            subst hm
            have g : befP y 13 = befP y 12 + lenP y 12 := b
            omega)
          have hy2 : y + 1 ≤ 2099 := by
            have a := HK2.out
            have f := bef_one (y + 1)
            by_cases c : y + 1 ≤ 2099
            · exact c
            · have := ys_mono 2100 (y + 1) (by omega)
              rw [ys_last] at this
              omega
          subst hm
          go_wp2_with (go_at_call 175; refine (CX.out _).mono ?_; rintro e w' ⟨rfl, rfl⟩)
          go_round
          case rel => exact ⟨y + 1, 1, r - x, by omega, hy2, by omega, by omega, by omega, by omega, rfl, rfl, rfl, HK2⟩
          case measure => simp [intOf]; omega
        · have HK2 : Hid (n = ysP y + befP y (m + 1) + (r - x)) := Lib.hid (by
            have a := HK.out
            have b := HN.out
            have e := hx.out
            omega)
          have hm2 : (m + 1 == 13) = false := by rw [beq_eq_false_iff_ne]; omega
          have hm3 : m ≤ 11 := by omega
          clear hm
          go_wp2_with (go_at_call 175; refine (CX.out _).mono ?_; rintro e w' ⟨rfl, rfl⟩)
          go_round
          case rel => exact ⟨y, m + 1, r - x, by omega, by omega, by omega, by omega, by omega, by omega, rfl, rfl, rfl, HK2⟩
          case measure => simp [intOf]; omega
      · have HR : Hid (dateR n = (y, m, r + 1)) := Lib.hid (by
          have a := hx.out
          have b := HK.out
          exact date_of (ok_mk (by omega)) (by unfold numP; omega))
        go_wp2_with (go_at_call 175; refine (CX.out _).mono ?_; rintro e w' ⟨rfl, rfl⟩)
        go_ret3
        exact ⟨by rw [HR.out]; rfl, rfl⟩
  · have HR : Hid (dateR n = (0, 0, 0)) := Lib.hid (date_out (by simpa [isDayB] using hn))
    by_cases h0 : n < 0
    · clear hn
      go_enter Tryz.func125, Tryz.ntmps125
      go_wp2
      go_ret3
      exact ⟨by rw [HR.out]; rfl, rfl⟩
    · have h1 : 36525 ≤ n := by omega
      clear hn
      go_enter Tryz.func125, Tryz.ntmps125
      go_wp2
      go_ret3
      exact ⟨by rw [HR.out]; rfl, rfl⟩

end Go.Proofs.YtfgmlbmjjihhfaaGreatDoor

/- Walks of Print and Clock, beside the reference's; of the tests and numbers of digits. -/
namespace Go.Proofs.YtfgmlbmjjihhfaaGreatDoor
open Go.RowKit
set_option linter.unusedSimpArgs false
set_option linter.unusedVariables false

theorem mk_app (a b : List UInt8) : (⟨a.toArray⟩ : ByteArray) ++ ⟨b.toArray⟩ = ⟨(a ++ b).toArray⟩ := by
  apply ByteArray.ext
  simp [ByteArray.data_append]
theorem two_acc (n : Int) (w w1 : World) (h0 : 0 ≤ n) (h1 : n ≤ 99) (hb : Below w.heap.size w w1) :
    Calls Tryz.prog 173 #[.int .i64 n] w1 fun e w' => e = .returned (.string ⟨(twoL n).toArray⟩) ∧ Below w.heap.size w w' :=
  (two_any n w1 h0 h1).mono (by rintro e w' ⟨rfl, h⟩; exact ⟨rfl, hb.trans (h.mono hb.size)⟩)
theorem rtwo_acc (n : Int) (w w1 : World) (h0 : 0 ≤ n) (h1 : n ≤ 99) (hb : Below w.heap.size w w1) :
    Calls Tryz.prog 126 #[.int .i64 n] w1 fun e w' => e = .returned (.string ⟨(twoL n).toArray⟩) ∧ Below w.heap.size w w' :=
  (rtwo_any n w1 h0 h1).mono (by rintro e w' ⟨rfl, h⟩; exact ⟨rfl, hb.trans (h.mono hb.size)⟩)

set_option maxHeartbeats 1000000 in
theorem print_any (n : Int) (w : World) : Calls Tryz.prog 119 #[.int .i64 n] w fun e w' => e = .returned (.string ⟨(printL n).toArray⟩) ∧ Below w.heap.size w w' := by
  cases hd : isDayB n
  · have HR : Hid (printL n = []) := Lib.hid (by simp [printL, hd])
    go_enter Tryz.func119, Tryz.ntmps119
    go_wp2_with (go_at_call 171; refine (isDay_any _ _).mono ?_; rintro e w' ⟨rfl, rfl⟩)
    go_ret
    exact ⟨by rw [HR.out]; rfl, Below.refl _ _⟩
  · have hD := (date_in hd).1
    obtain ⟨y, m, d, hR⟩ : ∃ y m d, dateR n = (y, m, d) := ⟨_, _, _, rfl⟩
    rw [hR] at hD
    have CD : Hid (∀ w, Calls Tryz.prog 172 #[.int .i64 n] w fun e w' => e = .returned (.tuple #[.int .i64 y, .int .i64 m, .int .i64 d]) ∧ Below w.heap.size w w') := Lib.hid (fun w => by have h := date_any n w; rw [hR] at h; exact h)
    have HR : Hid (printL n = dateL y m d) := Lib.hid (by rw [printL, if_pos hd, hR])
    obtain ⟨y0, y1, m0, m1, d0, d1⟩ : 2000 ≤ y ∧ y ≤ 2099 ∧ 1 ≤ m ∧ m ≤ 12 ∧ 1 ≤ d ∧ d ≤ lenP y m := ok_yes hD
    have hl := len_range y m
    clear hR hD
    have d2 : d ≤ 31 := by omega
    clear hl d1
    go_enter Tryz.func119, Tryz.ntmps119
    go_wp2_with (first | (go_at_call 173; refine (two_acc _ w _ (by omega) (by omega) hb).mono ?_; rintro e w' ⟨rfl, hb⟩) | (go_at_call 172; refine (CD.out _).mono ?_; rintro e w' ⟨rfl, hb⟩) | (go_at_call 171; refine (isDay_any _ _).mono ?_; rintro e w' ⟨rfl, rfl⟩))
    go_ret
    exact ⟨by rw [HR.out]; simp only [dateL, ← mk_app]; rfl, hb⟩
set_option maxHeartbeats 1000000 in
theorem rprint_any (n : Int) (w : World) : Calls Tryz.prog 70 #[.int .i64 n] w fun e w' => e = .returned (.string ⟨(printL n).toArray⟩) ∧ Below w.heap.size w w' := by
  have hb : Below w.heap.size w w := Below.refl _ _
  cases hd : isDayB n
  · have HR : Hid (printL n = []) := Lib.hid (by simp [printL, hd])
    have CD : Hid (∀ w, Calls Tryz.prog 125 #[.int .i64 n] w fun e w' => e = .returned (.tuple #[.int .i64 0, .int .i64 0, .int .i64 0]) ∧ w = w') := Lib.hid (fun w => by have h := rdate_any n w; rw [date_out hd] at h; exact h)
    go_enter Tryz.func70, Tryz.ntmps70
    go_wp2_with (go_at_call 125; refine (CD.out _).mono ?_; rintro e w' ⟨rfl, rfl⟩)
    go_ret
    exact ⟨by rw [HR.out]; rfl, hb⟩
  · have hD := (date_in hd).1
    obtain ⟨y, m, d, hR⟩ : ∃ y m d, dateR n = (y, m, d) := ⟨_, _, _, rfl⟩
    rw [hR] at hD
    have CD : Hid (∀ w, Calls Tryz.prog 125 #[.int .i64 n] w fun e w' => e = .returned (.tuple #[.int .i64 y, .int .i64 m, .int .i64 d]) ∧ w = w') := Lib.hid (fun w => by have h := rdate_any n w; rw [hR] at h; exact h)
    have HR : Hid (printL n = dateL y m d) := Lib.hid (by rw [printL, if_pos hd, hR])
    obtain ⟨y0, y1, m0, m1, d0, d1⟩ : 2000 ≤ y ∧ y ≤ 2099 ∧ 1 ≤ m ∧ m ≤ 12 ∧ 1 ≤ d ∧ d ≤ lenP y m := ok_yes hD
    have hl := len_range y m
    clear hR hD
    have d2 : d ≤ 31 := by omega
    have hy : (y == 0) = false := by rw [beq_eq_false_iff_ne]; omega
    clear hl d1
    go_enter Tryz.func70, Tryz.ntmps70
    go_wp2_with (first | (go_at_call 126; refine (rtwo_acc _ w _ (by omega) (by omega) hb).mono ?_; rintro e w' ⟨rfl, hb⟩) | (go_at_call 125; refine (CD.out _).mono ?_; rintro e w' ⟨rfl, rfl⟩))
    go_ret
    exact ⟨by rw [HR.out]; simp only [dateL, ← mk_app]; rfl, hb⟩
end Go.Proofs.YtfgmlbmjjihhfaaGreatDoor

/- Walks of digits and Print. -/
namespace Go.Proofs.YtfgmlbmjjihhfaaGreatDoor.Per
open Go.RowKit
set_option linter.unusedSimpArgs false
set_option linter.unusedVariables false

theorem byteT : ByteT Tryz.prog 162 5 := ⟨Tryz.underlying162, Tryz.underlying5, by kernel_rfl⟩
/-- the digits of the weekdays, of the first k -/
def digTo (d k : Nat) : List UInt8 := ((List.range k).filter fun i => d.testBit i).map fun i => UInt8.ofNat (49 + i)
def digL (d : Int) : List UInt8 := digTo d.toNat 7
theorem digTo_hit (d k : Nat) (h : d.testBit k = true) : digTo d (k + 1) = digTo d k ++ [UInt8.ofNat (49 + k)] := by
  rw [digTo, List.range_succ, List.filter_append]; simp [digTo, h]
theorem digTo_miss (d k : Nat) (h : d.testBit k = false) : digTo d (k + 1) = digTo d k := by
  rw [digTo, List.range_succ, List.filter_append]; simp [digTo, h]
theorem digTo_len (d k : Nat) : (digTo d k).length ≤ k := by
  rw [digTo, List.length_map]
  exact Nat.le_trans (List.length_filter_le _ _) (by simp)
theorem dig_cells (k : Nat) (h : k < 7) : (Lib.byteCells [UInt8.ofNat (49 + k)]).toArray = #[.int .u8 (49 + k)] := by
  have : k = 0 ∨ k = 1 ∨ k = 2 ∨ k = 3 ∨ k = 4 ∨ k = 5 ∨ k = 6 := by omega
  rcases this with rfl | rfl | rfl | rfl | rfl | rfl | rfl <;> rfl

set_option maxRecDepth 100000 in
set_option maxHeartbeats 2000000 in
theorem pdigits_any (f t d : Int) (w : World) (h0 : 0 ≤ d) (h1 : d ≤ 127) : Calls Tryz.prog 136 #[encQ (f, t, d)] w fun e w' => e = .returned (.string ⟨(digL d).toArray⟩) ∧ Below w.heap.size w w' := by
  have hB : Box3 w w.heap.size (f, t, d) (w.alloc (.cells #[.int .i64 f, .int .i64 t, .int .i64 d] 27)) := Box3.new w (f, t, d) _
  have hsz : (w.alloc (.cells #[.int .i64 f, .int .i64 t, .int .i64 d] 27)).heap.size = w.heap.size + 1 := by simp
  go_enter Tryz.func136, Tryz.ntmps136
  go_wp2
  generalize w.alloc (.cells #[.int .i64 f, .int .i64 t, .int .i64 d] 27) = w1 at *
  go_loopw [3, 5] (fun vb vi wr => ∃ k : Nat, k ≤ 7 ∧ vi = .int .i64 k ∧ Buf 5 w1.heap.size w1 wr vb (digTo d.toNat k)) (fun _ vi _ => 7 - (intOf vi).toNat)
  case atStart => exact ⟨0, by omega, rfl, Buf.nil (Below.refl _ _) (Nat.le_refl _)⟩
  case round =>
    obtain ⟨k, hk, rfl, hO⟩ := hrel
    by_cases hlt : k < 7
    · have hB1 := hB.more hO.bel
      obtain ⟨c0, c1, c2, c3⟩ := hB1
      have i1 : (k : Int) < 7 := by omega
      have CH := Lib.hid (fun W => hasWd_any f t d k W h0 h1 hlt)
      have hl := digTo_len d.toNat k
      cases hw : d.toNat.testBit k
      · have HN := Lib.hid (digTo_miss d.toNat k hw)
        rw [hw] at CH
        clear hw
        go_wp2_with (go_at_call 128; refine (CH.out _).mono ?_; rintro e w2 ⟨rfl, hb⟩)
        go_roundw
        case rel => exact ⟨k + 1, by omega, by go_num, by rw [HN.out]; exact hO.more hb⟩
        case measure => simp [intOf]; omega
      · have HN := Lib.hid (digTo_hit d.toNat k hw)
        have HC := Lib.hid (dig_cells k hlt)
        rw [hw] at CH
        clear hw
        go_wp2_with (first | (go_at_call 128; refine (CH.out _).mono ?_; rintro e w2 ⟨rfl, hb⟩; have hO2 := hO.more hb) | (refine wpList_app byteT rfl _ _ rfl _ (digTo d.toNat k) rfl (hO2.alloc _) _ [UInt8.ofNat (49 + k)] 1 _ rfl rfl (by omega) HC.out.symm (heap_alloc_new _ _) (by omega) ?_; intro v' w3 hO3))
        go_roundw
        case rel => exact ⟨k + 1, by omega, by go_num, by rw [HN.out]; exact hO3⟩
        case measure => simp [intOf]; omega
    · have e : k = 7 := by omega
      subst e
      have HT := hO.text byteT Tryz.underlying9
      go_wp2
      go_ret
      exact ⟨rfl, hB.2.2.2.trans (hO.bel.mono (by omega))⟩

theorem print_len10 (n : Int) : (printL n).length ≤ 10 := by
  unfold printL
  split
  · simp [dateL, twoL]
  · simp
/-- a period as text -/
def perL (p : Per) : List UInt8 := if okQ p then printL p.1 ++ [47] ++ printL p.2.1 ++ [47] ++ digL p.2.2 else []
set_option maxHeartbeats 2000000 in
theorem pprint_any (f t d : Int) (w : World) : Calls Tryz.prog 80 #[encQ (f, t, d)] w fun e w' => e = .returned (.string ⟨(perL (f, t, d)).toArray⟩) ∧ Below w.heap.size w w' := by
  have hb := bel_alloc w (.cells #[.int .i64 f, .int .i64 t, .int .i64 d] 27)
  cases h : okQ (f, t, d)
  · have HR : Hid (perL (f, t, d) = []) := Lib.hid (by simp [perL, h])
    have CV := Lib.hid (fun W => isValid_any f t d W)
    rw [h] at CV
    clear h
    go_enter Tryz.func80, Tryz.ntmps80
    go_wp2_with (go_at_call 127; refine (CV.out _).mono ?_; rintro e w1 ⟨rfl, hb1⟩)
    go_ret
    exact ⟨by rw [HR.out]; rfl, hb.trans (hb1.mono hb.size)⟩
  · have hq := okQ_yes h
    have HR : Hid (perL (f, t, d) = printL f ++ [47] ++ printL t ++ [47] ++ digL d) := Lib.hid (by rw [perL, if_pos h])
    have CV := Lib.hid (fun W => isValid_any f t d W)
    rw [h] at CV
    have hB0 : Box3 w w.heap.size (f, t, d) (w.alloc (.cells #[.int .i64 f, .int .i64 t, .int .i64 d] 27)) := Box3.new w (f, t, d) _
    have C1 := Lib.hid (Box3.call (w := w) (B := w.heap.size) (p := (f, t, d)) (fun W => print_any f W))
    have C2 := Lib.hid (Box3.call (w := w) (B := w.heap.size) (p := (f, t, d)) (fun W => print_any t W))
    have C3 := Lib.hid (Box3.call (w := w) (B := w.heap.size) (p := (f, t, d)) (fun W => pdigits_any f t d W (by have := hq.2.2.2.2.1; simp at this; omega) hq.2.2.2.2.2))
    have f0 : ∀ x : Wd (Box3 w w.heap.size (f, t, d)), x.w.cell? ⟨w.heap.size, 0, none⟩ = some (.int .i64 f) := fun x => x.ok.1
    have f1 : ∀ x : Wd (Box3 w w.heap.size (f, t, d)), x.w.cell? ⟨w.heap.size, 1, none⟩ = some (.int .i64 t) := fun x => x.ok.2.1
    have f2 : ∀ x : Wd (Box3 w w.heap.size (f, t, d)), x.w.cell? ⟨w.heap.size, 2, none⟩ = some (.int .i64 d) := fun x => x.ok.2.2.1
    clear h hq
    obtain ⟨s1, hs1⟩ : ∃ s : ByteArray, s = ⟨(printL f).toArray⟩ := ⟨_, rfl⟩
    obtain ⟨s2, hs2⟩ : ∃ s : ByteArray, s = ⟨(printL t).toArray⟩ := ⟨_, rfl⟩
    obtain ⟨s3, hs3⟩ : ∃ s : ByteArray, s = ⟨(digL d).toArray⟩ := ⟨_, rfl⟩
    rw [← hs1] at C1
    rw [← hs2] at C2
    rw [← hs3] at C3
    have HS : Hid ((((s1 ++ ⟨#[47]⟩) ++ s2) ++ ⟨#[47]⟩) ++ s3 = (⟨(printL f ++ [47] ++ printL t ++ [47] ++ digL d).toArray⟩ : ByteArray)) := Lib.hid (by
      rw [hs1, hs2, hs3]; simp only [← mk_app])
    have z1 : s1.size ≤ 10 := by rw [hs1]; exact print_len10 f
    have z2 : s2.size ≤ 10 := by rw [hs2]; exact print_len10 t
    have z3 : s3.size ≤ 7 := by rw [hs3]; exact digTo_len _ _
    clear hs1 hs2 hs3
    have A1 := fun W => run_string_add_sum (P := Tryz.prog) (w := W) s1 (⟨#[47]⟩ : ByteArray) (by show s1.size + 1 ≤ _; omega)
    have A2 := fun W => run_string_add_sum (P := Tryz.prog) (w := W) (s1 ++ ⟨#[47]⟩) s2 (by rw [ByteArray.size_append]; show s1.size + 1 + s2.size ≤ _; omega)
    have A3 := fun W => run_string_add_sum (P := Tryz.prog) (w := W) ((s1 ++ ⟨#[47]⟩) ++ s2) (⟨#[47]⟩ : ByteArray) (by rw [ByteArray.size_append, ByteArray.size_append]; show s1.size + 1 + s2.size + 1 ≤ _; omega)
    have A4 := fun W => run_string_add_sum (P := Tryz.prog) (w := W) (((s1 ++ ⟨#[47]⟩) ++ s2) ++ ⟨#[47]⟩) s3 (by rw [ByteArray.size_append, ByteArray.size_append, ByteArray.size_append]; show s1.size + 1 + s2.size + 1 + s3.size ≤ _; omega)
    go_enter Tryz.func80, Tryz.ntmps80
    go_wp2_with (go_at_call 127; refine (CV.out _).mono ?_; rintro e w1 ⟨rfl, hb1⟩)
    have hB1 := (hB0.more hb1).more (Below.refl _ _).drew
    have hNe : Nonempty (Wd (Box3 w w.heap.size (f, t, d))) := ⟨⟨_, hB1⟩⟩
    refine quietS (S := Box3 w w.heap.size (f, t, d)) (by kernel_rfl) (by kernel_rfl) (hB1) ?_
    repeat (first | go_big_quiet_skip | (go_big_quiet_want; go_big_quiet_op; first | go_big_quiet_on | go_big_quiet_call ((first | (go_at_call 119; first | (with_reducible exact quiet_S (C1.out _ (Wd.ok _))) | (with_reducible exact quiet_S (C2.out _ (Wd.ok _)))) | (go_at_call 136; exact quiet_S (C3.out _ (Wd.ok _)))))))
    refine wpQuiet_nil ?_
    rintro W ⟨⟨_, hW⟩, rfl⟩
    go_wp2
    go_ret
    exact ⟨by rw [HR.out, ← HS.out]; rfl, hW.2.2.2⟩

end Go.Proofs.YtfgmlbmjjihhfaaGreatDoor.Per

/- Walk of checkTimes. -/
namespace Go.Proofs.YtfgmlbmjjihhfaaGreatDoor
open Go.RowKit Go.Shelf
set_option linter.unusedSimpArgs false
set_option linter.unusedVariables false

def dayW : ByteArray := ⟨#[100, 97, 121, 32]⟩
/-- the first day whose times are not ordered -/
def badD (l : List Air) (lg : List Lg) : List Int → List Flt
  | [] => []
  | d :: r => if ordT true 0 (timL l lg d) then badD l lg r else [(13, dayW ++ ⟨(printL d).toArray⟩)]
def timF (l : List Air) (f : FV) : List Flt := badD l f.lg (Per.daysQ (f.pf, f.pt, f.pd))
theorem badD_at {l : List Air} {lg : List Lg} {D : List Int} {k : Nat} (h : k < D.length) : badD l lg (D.drop k) = if ordT true 0 (timL l lg D[k]) then badD l lg (D.drop (k + 1)) else [(13, dayW ++ ⟨(printL D[k]).toArray⟩)] := by
  rw [List.drop_eq_getElem_cons h]
  rfl
theorem days_bd {q : Int × Int × Int} {d : Int} (h : d ∈ Per.daysQ q) : 0 ≤ d ∧ d < 36525 := by
  have h1 := (Per.hasQ_iff _ _).1 ((Per.daysQ_mem _ _).1 h)
  have h2 := Per.okQ_yes h1.1
  omega
theorem pdays_any (a b c : Int) (w : World) : Calls Tryz.prog 106 #[.agg #[.int .i64 a, .int .i64 b, .int .i64 c]] w fun e W' => ∃ v, e = .returned v ∧ Per.IntL W' v (Per.daysQ (a, b, c)) ∧ Below w.heap.size w W' :=
  (callsIn_wide.1 (Per.days_in (a, b, c) w)).mono (by rintro e w' ⟨v, rfl, h, hb⟩; exact ⟨v, rfl, .of_own h, hb⟩)

set_option maxRecDepth 100000 in
set_option maxHeartbeats 8000000 in
theorem checkTimes_any (p : PV) (f : FV) (w : World) (hl : p.l.length ≤ 40) (hL : AirL w p.A p.l) (hs : ∀ a ∈ p.l, a.shs.length ≤ 300) (hz : ∀ a ∈ p.l, OkZ a.off a.shs) (hG : LegL w (.slice f.A f.lg.length f.c) f.lg) (hn : f.lg.length ≤ 100)
    (hm : ∀ x ∈ f.lg, (-1000000 ≤ x.dep ∧ x.dep ≤ 1000000) ∧ -1000000 ≤ x.arr ∧ x.arr ≤ 1000000) :
    Calls Tryz.prog 61 #[encP p, encFl f] w fun e w' => ∃ v, e = .returned v ∧ FOwn w.heap.size w' v (timF p.l f) ∧ Below w.heap.size w w' := by
  have hb1 := bel_alloc w (.cells #[.slice p.A p.l.length p.ca, .slice p.D p.ds.length p.cd] placesT)
  have hb2 := bel_alloc (w.alloc (.cells #[.slice p.A p.l.length p.ca, .slice p.D p.ds.length p.cd] placesT)) (.cells #[.string f.car, .int .i64 f.num, .int .i64 f.pf, .int .i64 f.pt, .int .i64 f.pd, .slice f.A f.lg.length f.c] fliT)
  have hb0 := hb1.trans (hb2.mono hb1.size)
  have q2 := (cells_new (w.alloc (.cells #[.slice p.A p.l.length p.ca, .slice p.D p.ds.length p.cd] placesT)) #[.string f.car, .int .i64 f.num, .int .i64 f.pf, .int .i64 f.pt, .int .i64 f.pd, .slice f.A f.lg.length f.c] fliT 2).trans (show _ = some (.int .i64 f.pf) from rfl)
  have q3 := (cells_new (w.alloc (.cells #[.slice p.A p.l.length p.ca, .slice p.D p.ds.length p.cd] placesT)) #[.string f.car, .int .i64 f.num, .int .i64 f.pf, .int .i64 f.pt, .int .i64 f.pd, .slice f.A f.lg.length f.c] fliT 3).trans (show _ = some (.int .i64 f.pt) from rfl)
  have q4 := (cells_new (w.alloc (.cells #[.slice p.A p.l.length p.ca, .slice p.D p.ds.length p.cd] placesT)) #[.string f.car, .int .i64 f.num, .int .i64 f.pf, .int .i64 f.pt, .int .i64 f.pd, .slice f.A f.lg.length f.c] fliT 4).trans (show _ = some (.int .i64 f.pd) from rfl)
  rw [World.size_alloc] at q2 q3 q4
  have KN := Lib.hid (nonstops_any p f.A f.c f.lg _ hl (hL.more hb0) hs (hG.more hb0) hn)
  have HZ := Lib.hid hz
  have HM := Lib.hid hm
  obtain ⟨D, hD⟩ : ∃ D, D = Per.daysQ (f.pf, f.pt, f.pd) := ⟨_, rfl⟩
  have HT : Hid (timF p.l f = badD p.l f.lg D) := Lib.hid (by rw [hD]; rfl)
  have HB : Hid (∀ d ∈ D, 0 ≤ d ∧ d < 36525) := Lib.hid (by rw [hD]; exact fun d => days_bd)
  have HDl : D.length ≤ 800 := by rw [hD]; exact Per.daysQ_len _
  have KD := Lib.hid (pdays_any f.pf f.pt f.pd)
  rw [← hD] at KD
  clear hD hl hL hs hz hG hm
  go_enter Tryz.func61, Tryz.ntmps61
  go_wp2_with (first | (go_at_call 72; refine KN.out.mono ?_; rintro e w1 ⟨v1, L, rfl, hv1, hLn, hN, hbn⟩; have r2 := bel_cell hbn q2; have r3 := bel_cell hbn q3; have r4 := bel_cell hbn q4) | (go_at_call 106; refine (KD.out _).mono ?_; rintro e w2 ⟨v2, rfl, ⟨A2, c2, rfl, hI⟩, hbd⟩))
  have hS0 : Below w.heap.size w w2 := hb0.trans ((hbn.mono hb0.size).trans (hbd.mono (Nat.le_trans hb0.size hbn.size)))
  have HV := Lib.hid (hv1.more hbd)
  have HN := Lib.hid (fun k x n h h' => (hN k x n h h').more hbd)
  have HLn := Lib.hid hLn
  have HI := Lib.hid hI
  clear hv1 hN hLn hI KN q2 q3 q4 r2 r3 r4
  go_loopw [16] (fun vi wr => ∃ k : Nat, k ≤ D.length ∧ vi = .int .i64 k ∧ Hid (timF p.l f = badD p.l f.lg (D.drop k)) ∧ SW w2 wr) (fun vi _ => D.length - (intOf vi).toNat)
  case atStart => exact ⟨0, Nat.zero_le _, rfl, HT, Below.refl _ _⟩
  case round =>
    obtain ⟨k, hk, rfl, HK, hS⟩ := hrel
    by_cases hlt : k < D.length
    · have i1 : (k : Int) < (D.length : Int) := by omega
      obtain ⟨b, o, rfl, hlb, hc⟩ : ∃ b o, A2 = some ⟨b, o, none⟩ ∧ b < w2.heap.size ∧ w2.cell? ⟨b, o + k, none⟩ = some (.int .i64 D[k]) := by
        rcases HI.out with h | ⟨b, o, h1, h2, h3⟩
        · rw [h] at hlt; simp at hlt
        · exact ⟨b, o, h1, h2, h3 k hlt⟩
      have hcr := bel_cell hS hc
      have HK2 := Lib.hid (HK.out.trans (badD_at hlt))
      have hd := HB.out _ (List.getElem_mem hlt)
      generalize D[k] = d at *
      have KO := Lib.hid (isOrdered_any v1 p.l f.lg L d wr ((HV.out.more hS).rowL rtN.len) HLn.out (fun k x n h h' => (HN.out k x n h h').more hS) HZ.out hn (by omega) HM.out)
      cases ho : ordT true 0 (timL p.l f.lg d) <;> rw [ho] at KO HK2
      · obtain ⟨X, hX⟩ : ∃ X, X = (⟨(printL d).toArray⟩ : ByteArray) := ⟨_, rfl⟩
        have KP := Lib.hid (print_any d)
        rw [← hX] at KP
        have HR : Hid (timF p.l f = [] ++ pick (dayW ++ X) [13]) := Lib.hid (by rw [HK2.out, hX]; rfl)
        have hz : X.size ≤ 10 := by rw [hX]; exact Per.print_len10 d
        have A1 := fun W => run_string_add_sum (P := Tryz.prog) (w := W) (⟨#[100, 97, 121, 32]⟩ : ByteArray) X (by show 4 + X.size ≤ _; omega)
        clear hX HK2 HK ho hc
        go_wp2_with (first | (go_at_call 118; refine KO.out.mono ?_; rintro e w3 ⟨rfl, hb3⟩) | (go_at_call 119; refine (KP.out _).mono ?_; rintro e w4 ⟨rfl, hb4⟩) | (go_at_call 50; refine (fadd_any w.heap.size (.slice none 0 0) [] (dayW ++ X) w4.heap.size 1 1 [13] _ (ROwn.nil (by
          have h1 := hS0.size; have h2 := hS.size; have h3 := hb3.size; have h4 := hb4.size; rw [World.size_alloc]; omega)) rfl (by omega) (errs_new w4 [13] rfl) (by intro h; cases h) (by simp)).mono ?_; rintro e w8 ⟨v8, rfl, hO8, hC8⟩))
        go_ret
        refine ⟨v8, rfl, by rw [HR.out]; exact hO8, ?_⟩
        have h1 : Below w.heap.size w w4 := hS0.trans ((hS.mono hS0.size).trans ((hb3.mono (Nat.le_trans hS0.size hS.size)).trans (hb4.mono (Nat.le_trans hS0.size (Nat.le_trans hS.size hb3.size)))))
        have h5 := h1.trans ((bel_alloc w4 (.cells #[.int .i64 13] errT)).mono h1.size)
        exact h5.trans (hC8.below (ROwn.nil h5.size (e := fltT) (sz := 2) (enc := encF)))
      · have HR : Hid (timF p.l f = badD p.l f.lg (D.drop (k + 1))) := Lib.hid HK2.out
        clear HK2 HK ho hc
        go_wp2_with (go_at_call 118; refine KO.out.mono ?_; rintro e w3 ⟨rfl, hb3⟩)
        go_roundw
        case rel => exact ⟨k + 1, by omega, by go_num, HR, Below.trans hS (Below.mono hb3 hS.size)⟩
        case measure => simp [intOf]; omega
    · have HR : Hid (timF p.l f = []) := Lib.hid (by rw [HK.out, List.drop_of_length_le (by omega)]; rfl)
      have i1 : ¬ (k : Int) < (D.length : Int) := by omega
      go_wp2
      go_ret
      have h1 : Below w.heap.size w wr := hS0.trans (Below.mono hS hS0.size)
      exact ⟨_, rfl, by rw [HR.out]; exact ROwn.nil h1.size, h1⟩

end Go.Proofs.YtfgmlbmjjihhfaaGreatDoor
