/- Words and walks that the laws below ask: PerA, PerB, CalB, CalC, CalE, PerT, PerQ, PerR, PerL, PerC, PerD, PerM, PerE, PerF, PerG, PerH, PerI. -/
import Derived.Test.YtmmpalnalogfnaaGreatDoorRows
import Derived.OwnWalk
import Derived.IntWalk
import Derived.Deep.QuietTactic
import Derived.BigQuiet
import Derived.Deep.RegionHeld3
import Derived.Deep.WholeRow
import Derived.Laws.Concat
import Derived.Lib.Split
import Derived.Lib.IndexLaws
import Derived.Lib.IndexBytes
import Derived.RangeFuncNested
import Derived.RangeFuncBound
import Derived.RangeFuncCalls
import Derived.RangeFuncLeaves
import Derived.Shelf.Abstract
import Derived.Shelf.RegionOpen
import Derived.WalkKit
import Derived.OwnWalkIn
import Derived.TacticsInMore
import Derived.LoopNIn
import Derived.LoopIn
import Derived.Maps.AppendAt
import Derived.Sort.QuietIn
import Derived.Sort.BigQuietIn
import Derived.Deep.AppendLies
import Derived.RangeFuncBox
import Derived.Test.YtmmpalnalogfnaaGreatDoorPk1
import Derived.Test.YtmmpalnalogfnaaGreatDoorPk3
/- Walks of the small functions of package period, beside the reference's: Check, the weekday's bit, between. -/
namespace Go.Proofs.YtmmpalnalogfnaaGreatDoor.Per
open Go.RowKit
set_option linter.unusedSimpArgs false
set_option linter.unusedVariables false

abbrev encQ (p : Per) : Value := .agg #[.int .i64 p.1, .int .i64 p.2.1, .int .i64 p.2.2]
theorem bel_alloc (w : World) (o : Obj) : Below w.heap.size w (w.alloc o) := (Below.refl _ w).alloc (Nat.le_refl _) o
theorem err_first {f t d : Int} (h : f < 0 ∨ t < f ∨ 36525 ≤ t) : errQ (f, t, d) = 12 := by rw [errQ, if_pos h]
theorem err_second {f t d : Int} (h : ¬ (f < 0 ∨ t < f ∨ 36525 ≤ t)) (h2 : 800 ≤ t - f) : errQ (f, t, d) = 4 := by rw [errQ, if_neg h, if_pos h2]
theorem err_third {f t d : Int} (h : ¬ (f < 0 ∨ t < f ∨ 36525 ≤ t)) (h2 : ¬ 800 ≤ t - f) (h3 : d < 1 ∨ 127 < d) : errQ (f, t, d) = 2 := by rw [errQ, if_neg h, if_neg h2, if_pos h3]
theorem err_none {f t d : Int} (h : ¬ (f < 0 ∨ t < f ∨ 36525 ≤ t)) (h2 : ¬ 800 ≤ t - f) (h3 : ¬ (d < 1 ∨ 127 < d)) : errQ (f, t, d) = 0 := by rw [errQ, if_neg h, if_neg h2, if_neg h3]

set_option maxHeartbeats 1000000 in
theorem check_any (f t d : Int) (w : World) : Calls Tryz.prog 66 #[encQ (f, t, d)] w fun e w' => e = .returned (.int .i64 (errQ (f, t, d))) ∧ Below w.heap.size w w' := by
  by_cases h1 : f < 0
  · have HR := Lib.hid (err_first (d := d) (.inl h1) (t := t))
    go_enter Tryz.func66, Tryz.ntmps66
    go_wp2
    go_ret
    exact ⟨by rw [HR.out]; rfl, bel_alloc _ _⟩
  by_cases h2 : t < f
  · have HR := Lib.hid (err_first (d := d) (.inr (.inl h2)))
    go_enter Tryz.func66, Tryz.ntmps66
    go_wp2
    go_ret
    exact ⟨by rw [HR.out]; rfl, bel_alloc _ _⟩
  by_cases h3 : 36525 ≤ t
  · have HR := Lib.hid (err_first (f := f) (d := d) (.inr (.inr h3)))
    go_enter Tryz.func66, Tryz.ntmps66
    go_wp2
    go_ret
    exact ⟨by rw [HR.out]; rfl, bel_alloc _ _⟩
  have ha : ¬ (f < 0 ∨ t < f ∨ 36525 ≤ t) := by omega
  by_cases h4 : 800 ≤ t - f
  · have HR := Lib.hid (err_second (d := d) ha h4)
    clear ha
    go_enter Tryz.func66, Tryz.ntmps66
    go_wp2
    go_ret
    exact ⟨by rw [HR.out]; rfl, bel_alloc _ _⟩
  by_cases h5 : d < 1
  · have HR := Lib.hid (err_third ha h4 (.inl h5))
    clear ha
    go_enter Tryz.func66, Tryz.ntmps66
    go_wp2
    go_ret
    exact ⟨by rw [HR.out]; rfl, bel_alloc _ _⟩
  by_cases h6 : 127 < d
  · have HR := Lib.hid (err_third ha h4 (.inr h6))
    clear ha
    go_enter Tryz.func66, Tryz.ntmps66
    go_wp2
    go_ret
    exact ⟨by rw [HR.out]; rfl, bel_alloc _ _⟩
  · have HR := Lib.hid (err_none ha h4 (d := d) (by omega))
    clear ha
    go_enter Tryz.func66, Tryz.ntmps66
    go_wp2
    go_ret
    exact ⟨by rw [HR.out]; rfl, bel_alloc _ _⟩

set_option maxHeartbeats 1000000 in
theorem rcheck_any (f t d : Int) (w : World) : Calls Tryz.prog 104 #[encQ (f, t, d)] w fun e w' => e = .returned (.int .i64 (errQ (f, t, d))) ∧ Below w.heap.size w w' := by
  by_cases h1 : f < 0
  · have HR := Lib.hid (err_first (d := d) (.inl h1) (t := t))
    go_enter Tryz.func104, Tryz.ntmps104
    go_wp2
    go_ret
    exact ⟨by rw [HR.out]; rfl, bel_alloc _ _⟩
  by_cases h2 : t < f
  · have HR := Lib.hid (err_first (d := d) (.inr (.inl h2)))
    go_enter Tryz.func104, Tryz.ntmps104
    go_wp2
    go_ret
    exact ⟨by rw [HR.out]; rfl, bel_alloc _ _⟩
  by_cases h3 : 36525 ≤ t
  · have HR := Lib.hid (err_first (f := f) (d := d) (.inr (.inr h3)))
    go_enter Tryz.func104, Tryz.ntmps104
    go_wp2
    go_ret
    exact ⟨by rw [HR.out]; rfl, bel_alloc _ _⟩
  have ha : ¬ (f < 0 ∨ t < f ∨ 36525 ≤ t) := by omega
  by_cases h4 : 800 ≤ t - f
  · have HR := Lib.hid (err_second (d := d) ha h4)
    clear ha
    go_enter Tryz.func104, Tryz.ntmps104
    go_wp2
    go_ret
    exact ⟨by rw [HR.out]; rfl, bel_alloc _ _⟩
  by_cases h5 : d < 1
  · have HR := Lib.hid (err_third ha h4 (.inl h5))
    clear ha
    go_enter Tryz.func104, Tryz.ntmps104
    go_wp2
    go_ret
    exact ⟨by rw [HR.out]; rfl, bel_alloc _ _⟩
  by_cases h6 : 127 < d
  · have HR := Lib.hid (err_third ha h4 (.inr h6))
    clear ha
    go_enter Tryz.func104, Tryz.ntmps104
    go_wp2
    go_ret
    exact ⟨by rw [HR.out]; rfl, bel_alloc _ _⟩
  · have HR := Lib.hid (err_none ha h4 (d := d) (by omega))
    clear ha
    go_enter Tryz.func104, Tryz.ntmps104
    go_wp2
    go_ret
    exact ⟨by rw [HR.out]; rfl, bel_alloc _ _⟩

end Go.Proofs.YtmmpalnalogfnaaGreatDoor.Per

/- Walks of isValid, the weekday's bit, Has, between, beside the reference's. -/
namespace Go.Proofs.YtmmpalnalogfnaaGreatDoor.Per
open Go.RowKit
set_option linter.unusedSimpArgs false
set_option linter.unusedVariables false

theorem bel_acc {f : Nat} {args : Array Value} {w w1 : World} {R : Ending → Prop} (h : Calls Tryz.prog f args w1 fun e w' => R e ∧ Below w1.heap.size w1 w') (hb : Below w.heap.size w w1) :
    Calls Tryz.prog f args w1 fun e w' => R e ∧ Below w.heap.size w w' := h.mono (by rintro e w' ⟨hr, h⟩; exact ⟨hr, hb.trans (h.mono hb.size)⟩)

set_option maxHeartbeats 1000000 in
theorem isValid_any (f t d : Int) (w : World) : Calls Tryz.prog 95 #[encQ (f, t, d)] w fun e w' => e = .returned (.bool (okQ (f, t, d))) ∧ Below w.heap.size w w' := by
  have hb := bel_alloc w (.cells #[.int .i64 f, .int .i64 t, .int .i64 d] 23)
  have CC := Lib.hid (fun w1 hb => bel_acc (w := w) (check_any f t d w1) hb)
  cases h : okQ (f, t, d)
  · have he := errQ_two h
    clear h
    generalize errQ (f, t, d) = z at *
    go_enter Tryz.func95, Tryz.ntmps95
    go_wp2_with (go_at_call 66; refine (CC.out _ hb).mono ?_; rintro e w' ⟨rfl, hb⟩)
    go_ret
    exact ⟨ret_bool rfl, hb⟩
  · have he := errQ_ok h
    clear h
    rw [he] at CC
    clear he
    go_enter Tryz.func95, Tryz.ntmps95
    go_wp2_with (go_at_call 66; refine (CC.out _ hb).mono ?_; rintro e w' ⟨rfl, hb⟩)
    go_ret
    exact ⟨ret_bool rfl, hb⟩

theorem wraps7 (n : Int) (h₀ : 0 ≤ n) (h₁ : n < 2 ^ 7) : IntKind.i64.wrap n = n := by rw [IntKind.wrap_i64]; omega
theorem or7 (a b : Nat) (ha : a < 128) (hb : b < 128) : bits .or .i64 (a : Int) (b : Int) = ((a ||| b : Nat) : Int) := (bits_nat .i64 7 (by decide) wraps7 a b ha hb).2
theorem one7 (x : Int) (h0 : 0 ≤ x) (h1 : x < 128) : bits .and .i64 x 1 = x % 2 := bits_mask .i64 7 (by decide) wraps7 1 (by decide) x h0 h1
theorem shr_bit (d : Int) (k : Nat) (h0 : 0 ≤ d) : d / 2 ^ k % 2 = if d.toNat.testBit k then 1 else 0 := by
  obtain ⟨n, rfl⟩ := Int.eq_ofNat_of_zero_le h0
  rw [Int.toNat_natCast, Nat.testBit_eq_decide_div_mod_eq]
  have e : ((n : Int) / 2 ^ k % 2) = ((n / 2 ^ k % 2 : Nat) : Int) := by simp
  rw [e]
  by_cases h : n / 2 ^ k % 2 = 1
  · simp [h]
  · have : n / 2 ^ k % 2 = 0 := by omega
    simp [this]
set_option maxHeartbeats 1000000 in
theorem hasWd_any (f t d : Int) (k : Nat) (w : World) (h0 : 0 ≤ d) (h1 : d ≤ 127) (hk : k < 7) : Calls Tryz.prog 137 #[encQ (f, t, d), .int .i64 k] w fun e w' => e = .returned (.bool (d.toNat.testBit k)) ∧ Below w.heap.size w w' := by
  have hm : min k 64 = k := by omega
  have HB : Hid ((bits BinOp.and IntKind.i64 (d / 2 ^ k) 1 == 1) = d.toNat.testBit k) := Lib.hid (by
    have q0 : 0 ≤ d / 2 ^ k := Int.ediv_nonneg h0 (Int.pow_nonneg (by omega))
    have q1 : d / 2 ^ k ≤ d := Int.ediv_le_self _ h0
    rw [one7 _ q0 (by omega), shr_bit d k h0]
    cases d.toNat.testBit k <;> rfl)
  go_enter Tryz.func137, Tryz.ntmps137
  go_wp2
  go_ret
  exact ⟨ret_bool HB.out, bel_alloc _ _⟩

theorem wk_val (n : Int) : weekP n = ((wkN n : Nat) : Int) := by rw [wkN_int]; rfl
theorem wk_any (n : Int) (w : World) (h0 : -9223372036854775808 ≤ n) (h1 : n ≤ 9223372036854775807) : Calls Tryz.prog 138 #[.int .i64 n] w fun e w' => e = .returned (.int .i64 (wkN n : Nat)) ∧ Below w.heap.size w w' := by
  rw [← wk_val]; exact weekday_any n w h0 h1
/-- a period that lies in a box, in a world that has only grown since w -/
def Box3 (w : World) (B : Nat) (p : Per) (W : World) : Prop := W.cell? ⟨B, 0, none⟩ = some (.int .i64 p.1) ∧ W.cell? ⟨B, 1, none⟩ = some (.int .i64 p.2.1) ∧ W.cell? ⟨B, 2, none⟩ = some (.int .i64 p.2.2) ∧ Below w.heap.size w W
theorem Box3.new (w : World) (p : Per) (t : TypeId) : Box3 w w.heap.size p (w.alloc (.cells #[.int .i64 p.1, .int .i64 p.2.1, .int .i64 p.2.2] t)) := by
  have h := heap_alloc_new w (.cells #[.int .i64 p.1, .int .i64 p.2.1, .int .i64 p.2.2] t)
  refine ⟨?_, ?_, ?_, bel_alloc _ _⟩
  · exact cell_of_row _ _ 0 _ _ (0, 0) h
  · exact cell_of_row _ _ 1 _ _ (0, 0) h
  · exact cell_of_row _ _ 2 _ _ (0, 0) h
theorem Box3.more {w : World} {B : Nat} {p : Per} {W W' : World} (h : Box3 w B p W) (hb : Below W.heap.size W W') : Box3 w B p W' :=
  ⟨(hb.cell (p := ⟨B, 0, none⟩) (World.block_lt_of_cell? W _ h.1)).trans h.1, (hb.cell (p := ⟨B, 1, none⟩) (World.block_lt_of_cell? W _ h.2.1)).trans h.2.1, (hb.cell (p := ⟨B, 2, none⟩) (World.block_lt_of_cell? W _ h.2.2.1)).trans h.2.2.1, h.2.2.2.trans (hb.mono h.2.2.2.size)⟩
theorem Box3.call {f : Nat} {args : Array Value} {w : World} {B : Nat} {p : Per} {v : Value} (h : ∀ W, Calls Tryz.prog f args W fun e w' => e = .returned v ∧ Below W.heap.size W w') (W : World) (hb : Box3 w B p W) :
    Calls Tryz.prog f args W fun e w' => e = .returned v ∧ Box3 w B p w' := (h W).mono (by rintro e w' ⟨he, h⟩; exact ⟨he, hb.more h⟩)
/-! ### regions that draw their order and whose calls make memory: one walk in the class of the worlds of which S holds -/
structure Wd (S : World → Prop) where
  w : World
  ok : S w
theorem quietS {P : Program} {S : World → Prop} {id : Nat} {Q : Exit → Act → World → Prop} {a : Act} {w : World} {l : List Oper} (hm : P.follows .mixedOrders = true) (hB : Region.lexB .any l.toArray = true) (hC : S w.drew)
    (h : wpQuiet P l.toArray (fun w' => ∃ x : Wd S, w' = x.w) (fun a' => ∀ w', (∃ x : Wd S, w' = x.w) → Q .normal a' w') l a) : (Code.region id l.toArray true).wp P Q a w :=
  wp_region_quiet (C := fun w' => ∃ x : Wd S, w' = x.w) hm hB ⟨⟨_, hC⟩, rfl⟩ (by simpa using h)
theorem quiet_S {P : Program} {f : FuncId} {args : Array Value} {W : World} {S : World → Prop} {v : Value} (h : Calls P f args W fun e w' => e = .returned v ∧ S w') :
    Calls P f args W fun e w'' => e = .returned v ∧ ∃ x : Wd S, w'' = x.w := h.mono (by rintro e w' ⟨he, hs⟩; exact ⟨he, ⟨w', hs⟩, rfl⟩)

set_option maxHeartbeats 2000000 in
theorem has_any (f t d n : Int) (w : World) (h0 : -9223372036854775808 ≤ n) (h1 : n ≤ 9223372036854775807) : Calls Tryz.prog 77 #[encQ (f, t, d), .int .i64 n] w fun e w' => e = .returned (.bool (hasQ (f, t, d) n)) ∧ Below w.heap.size w w' := by
  have hB : Box3 w w.heap.size (f, t, d) (w.alloc (.cells #[.int .i64 f, .int .i64 t, .int .i64 d] 23)).drew := (Box3.new w (f, t, d) _).more (Below.refl _ _).drew
  have f0 : ∀ x : Wd (Box3 w w.heap.size (f, t, d)), x.w.cell? ⟨w.heap.size, 0, none⟩ = some (.int .i64 f) := fun x => x.ok.1
  have f1 : ∀ x : Wd (Box3 w w.heap.size (f, t, d)), x.w.cell? ⟨w.heap.size, 1, none⟩ = some (.int .i64 t) := fun x => x.ok.2.1
  have f2 : ∀ x : Wd (Box3 w w.heap.size (f, t, d)), x.w.cell? ⟨w.heap.size, 2, none⟩ = some (.int .i64 d) := fun x => x.ok.2.2.1
  cases h : okQ (f, t, d)
  · have HR : Hid (hasQ (f, t, d) n = false) := Lib.hid (by simp [hasQ, h])
    have CV := Lib.hid (Box3.call (w := w) (B := w.heap.size) (p := (f, t, d)) (fun W => isValid_any f t d W))
    rw [h] at CV
    clear h
    go_enter Tryz.func77, Tryz.ntmps77
    go_wp2
    have hNe : Nonempty (Wd (Box3 w w.heap.size (f, t, d))) := ⟨⟨_, hB⟩⟩
    refine quietS (S := Box3 w w.heap.size (f, t, d)) (by kernel_rfl) (by kernel_rfl) (hB) ?_
    repeat (first | go_big_quiet_skip | (go_big_quiet_want; go_big_quiet_op; first | go_big_quiet_on | go_big_quiet_call ((go_at_call 95; exact quiet_S (CV.out _ (Wd.ok _))))))
    refine wpQuiet_nil ?_
    rintro W ⟨⟨_, hW⟩, rfl⟩
    go_wp2
    go_ret
    exact ⟨ret_bool HR.out.symm, hW.2.2.2⟩
  · have hq := okQ_yes h
    have CV := Lib.hid (Box3.call (w := w) (B := w.heap.size) (p := (f, t, d)) (fun W => isValid_any f t d W))
    rw [h] at CV
    have CW := Lib.hid (Box3.call (w := w) (B := w.heap.size) (p := (f, t, d)) (fun W => wk_any n W h0 h1))
    have CH := Lib.hid (Box3.call (w := w) (B := w.heap.size) (p := (f, t, d)) (fun W => hasWd_any f t d (wkN n) W (by have := hq.2.2.2.2.1; simp at this; omega) (by have := hq.2.2.2.2.2; simp at this; omega) (wkN_lt n)))
    by_cases a1 : f ≤ n
    · by_cases a2 : n ≤ t
      · have HR : Hid (hasQ (f, t, d) n = d.toNat.testBit (wkN n)) := Lib.hid (by simp [hasQ, a1, a2, h, wdB])
        clear h hq
        generalize d.toNat.testBit (wkN n) = z at *
        generalize wkN n = k at *
        go_enter Tryz.func77, Tryz.ntmps77
        go_wp2
        have hNe : Nonempty (Wd (Box3 w w.heap.size (f, t, d))) := ⟨⟨_, hB⟩⟩
        refine quietS (S := Box3 w w.heap.size (f, t, d)) (by kernel_rfl) (by kernel_rfl) (hB) ?_
        repeat (first | go_big_quiet_skip | (go_big_quiet_want; go_big_quiet_op; first | go_big_quiet_on | go_big_quiet_call ((first | (go_at_call 95; exact quiet_S (CV.out _ (Wd.ok _))) | (go_at_call 138; exact quiet_S (CW.out _ (Wd.ok _))) | (go_at_call 137; exact quiet_S (CH.out _ (Wd.ok _)))))))
        refine wpQuiet_nil ?_
        rintro W ⟨⟨_, hW⟩, rfl⟩
        go_wp2
        go_ret
        exact ⟨ret_bool HR.out.symm, hW.2.2.2⟩
      · have HR : Hid (hasQ (f, t, d) n = false) := Lib.hid (by simp [hasQ, a2])
        have a3 : decide (n ≤ t) = false := decide_eq_false a2
        clear h hq
        go_enter Tryz.func77, Tryz.ntmps77
        go_wp2
        have hNe : Nonempty (Wd (Box3 w w.heap.size (f, t, d))) := ⟨⟨_, hB⟩⟩
        refine quietS (S := Box3 w w.heap.size (f, t, d)) (by kernel_rfl) (by kernel_rfl) (hB) ?_
        repeat (first | go_big_quiet_skip | (go_big_quiet_want; go_big_quiet_op; first | go_big_quiet_on | go_big_quiet_call ((go_at_call 95; exact quiet_S (CV.out _ (Wd.ok _))))))
        refine wpQuiet_nil ?_
        rintro W ⟨⟨_, hW⟩, rfl⟩
        go_wp2
        go_ret
        exact ⟨ret_bool HR.out.symm, hW.2.2.2⟩
    · have HR : Hid (hasQ (f, t, d) n = false) := Lib.hid (by simp [hasQ, a1])
      have a3 : decide (f ≤ n) = false := decide_eq_false a1
      clear h hq
      go_enter Tryz.func77, Tryz.ntmps77
      go_wp2
      have hNe : Nonempty (Wd (Box3 w w.heap.size (f, t, d))) := ⟨⟨_, hB⟩⟩
      refine quietS (S := Box3 w w.heap.size (f, t, d)) (by kernel_rfl) (by kernel_rfl) (hB) ?_
      repeat (first | go_big_quiet_skip | (go_big_quiet_want; go_big_quiet_op; first | go_big_quiet_on | go_big_quiet_call ((go_at_call 95; exact quiet_S (CV.out _ (Wd.ok _))))))
      refine wpQuiet_nil ?_
      rintro W ⟨⟨_, hW⟩, rfl⟩
      go_wp2
      go_ret
      exact ⟨ret_bool HR.out.symm, hW.2.2.2⟩

end Go.Proofs.YtmmpalnalogfnaaGreatDoor.Per

/- Walks of calendar.Day and calendar.Date. -/
namespace Go.Proofs.YtmmpalnalogfnaaGreatDoor
open Go.RowKit
set_option linter.unusedSimpArgs false
set_option linter.unusedVariables false

/-- the array of the days of the months as a value of which only the cells are known -/
theorem months_of (y : Int) (w : World) (h0 : 2000 ≤ y) (h1 : y ≤ 2100) {A : Array Value} (hA : Hid (A = lensA y)) :
    Calls Tryz.prog 204 #[.int .i64 y] w fun e w' => e = .returned (.agg A) ∧ Below w.heap.size w w' :=
  (months_any y w h0 h1).mono (by
    rintro e w' ⟨rfl, rfl⟩
    exact ⟨by rw [hA.out], ((Below.refl _ _).alloc (Nat.le_refl _) _).alloc (by show w.heap.size ≤ (w.heap.push _).size; rw [Array.size_push]; omega) _⟩)
abbrev zeros : Array Value := #[.int .i64 0, .int .i64 0, .int .i64 0, .int .i64 0, .int .i64 0, .int .i64 0, .int .i64 0, .int .i64 0, .int .i64 0, .int .i64 0, .int .i64 0, .int .i64 0]
theorem info_months : (Tryz.prog.info? 229).map (·.size) = some 12 := by kernel_rfl
theorem store_months {y : Int} {A : Array Value} (hA : Hid (A = lensA y)) (w : World) :
    (storeCells ⟨w.heap.size, 0, none⟩ A.toList 0).run Tryz.prog (w.alloc (.cells zeros 229)) = .ok () (w.alloc (.cells A 229)) := by
  have e := hA.out
  subst e
  exact run_storeCells_new w _ zeros (lensA y) info_months rfl (by simp [lensA, Value.oneCell'])
theorem month_at {y : Int} {A : Array Value} (hA : Hid (A = lensA y)) (i : Nat) (h : i < 12) : A[i]? = some (.int .i64 (lenP y ((i : Int) + 1))) := by rw [hA.out]; exact lensA_at y i h
theorem month_size {y : Int} {A : Array Value} (hA : Hid (A = lensA y)) : A.size = 12 := by rw [hA.out]; rfl

set_option maxRecDepth 100000 in
set_option maxHeartbeats 1000000 in
theorem day_any (y m d : Int) (w : World) : Calls Tryz.prog 169 #[.int .i64 y, .int .i64 m, .int .i64 d] w fun e w' => e = .returned (.tuple #[.int .i64 (dayR y m d).1, .int .i64 (dayR y m d).2]) ∧ Below w.heap.size w w' := by
  by_cases hy : 2000 ≤ y ∧ y ≤ 2099 ∧ 1 ≤ m ∧ m ≤ 12
  · obtain ⟨y0, y1, m0, m1⟩ := hy
    obtain ⟨A, hA⟩ : ∃ A, Hid (A = lensA y) := ⟨_, Lib.hid rfl⟩
    have hst := store_months hA
    have hsz := month_size hA
    have hm : A[m.toNat - 1]? = some (.int .i64 (lenP y m)) := by
      have h := month_at hA (m.toNat - 1) (by omega)
      have e : ((m.toNat - 1 : Nat) : Int) + 1 = m := by omega
      rwa [e] at h
    obtain ⟨L, hL⟩ : ∃ L, Hid (L = lenP y m) := ⟨_, Lib.hid rfl⟩
    rw [← hL.out] at hm
    by_cases c5 : d < 1
    · have HR : Hid (dayR y m d = (0, 12)) := Lib.hid (by rw [dayR, if_neg]; rw [ok_not (by omega)]; simp)
      go_enter Tryz.func169, Tryz.ntmps169
      go_wp2_with (go_at_call 204; refine (months_of _ _ (by omega) (by omega) hA).mono ?_; rintro e wl ⟨rfl, hb⟩)
      go_ret2
      exact ⟨by rw [HR.out]; rfl, hb.alloc hb.size _⟩
    by_cases c6 : L < d
    · have HR : Hid (dayR y m d = (0, 12)) := Lib.hid (by have := hL.out; rw [dayR, if_neg]; rw [ok_not (by omega)]; simp)
      go_enter Tryz.func169, Tryz.ntmps169
      go_wp2_with (go_at_call 204; refine (months_of _ _ (by omega) (by omega) hA).mono ?_; rintro e wl ⟨rfl, hb⟩)
      go_ret2
      exact ⟨by rw [HR.out]; rfl, hb.alloc hb.size _⟩
    have HR : Hid (dayR y m d = (ysP y + befP y m + d - 1, 0)) := Lib.hid (by have := hL.out; rw [dayR, if_pos (ok_mk (by omega))]; rfl)
    have hyb : 0 ≤ ysP y ∧ ysP y ≤ 36525 := by
      have e := ys_mono 2000 y y0
      have f := ys_mono y 2100 (by omega)
      rw [ys_first] at e
      rw [ys_last] at f
      exact ⟨e, f⟩
    have hLb : L ≤ 31 := by have := hL.out; have := len_range y m; omega
    go_enter Tryz.func169, Tryz.ntmps169
    go_wp2_with (first | (go_at_call 203; refine (yearStart_any _ _ (by omega) (by omega)).mono ?_; rintro e w' ⟨rfl, rfl⟩) | (go_at_call 204; refine (months_of _ _ (by omega) (by omega) hA).mono ?_; rintro e wl ⟨rfl, hb⟩))
    go_loop [9, 10, 44] (fun n v10 i => ∃ (k : Nat) (acc : Int), k + 1 ≤ m.toNat ∧ i = .int .i64 k ∧ n = .int .i64 acc ∧ 0 ≤ acc ∧ acc ≤ 36600 + 31 * k ∧ Hid (acc = ysP y + befP y (k + 1) + d - 1)) (fun _ _ i => m.toNat - (intOf i).toNat)
    case atStart => exact ⟨0, ysP y + d - 1, by omega, rfl, rfl, by omega, by omega, Lib.hid (by have := bef_one y; simp only [Int.natCast_zero, Int.zero_add, this]; omega)⟩
    case round =>
      obtain ⟨k, acc, hk, rfl, rfl, a0, a1, HK⟩ := hrel
      by_cases hlt : k + 1 < m.toNat
      · have hk2 : A[k]? = some (.int .i64 (lenP y ((k : Int) + 1))) := month_at hA k (by omega)
        have i1 : (k : Int) < m - 1 := by omega
        have i2 : k < 12 := by omega
        have i3 : (k : Int) < 12 := by omega
        have hb2 := len_range y ((k : Int) + 1)
        have HN := Lib.hid (bef_next y ((k : Int) + 1) (by omega) (by omega))
        obtain ⟨x, hx⟩ : ∃ x, Hid (x = lenP y ((k : Int) + 1)) := ⟨_, Lib.hid rfl⟩
        have hk3 : ∀ h : k < A.size, A[k]'h = .int .i64 (lenP y ((k : Int) + 1)) := fun h => by
          have e := hk2
          rw [Array.getElem?_eq_getElem h] at e
          injection e
        rw [← hx.out] at hk2 hk3 hb2
        go_wp2
        go_round
        case rel => exact ⟨k + 1, acc + x, by omega, by go_num, rfl, by omega, by omega, Lib.hid (by have := HK.out; have := HN.out; have := hx.out; push_cast; omega)⟩
        case measure => simp [intOf]; omega
      · have i1 : ¬ (k : Int) < m - 1 := by omega
        have HE : Hid (acc = ysP y + befP y m + d - 1) := Lib.hid (by have e : m = (k : Int) + 1 := by omega
                                                                      rw [e]; exact HK.out)
        go_wp2
        go_ret2
        exact ⟨by rw [HR.out, HE.out]; rfl, hb.alloc hb.size _⟩
  · have HR : Hid (dayR y m d = (0, 12)) := Lib.hid (by rw [dayR, if_neg]; rw [ok_not (by omega)]; simp)
    by_cases c1 : y < 2000
    · go_enter Tryz.func169, Tryz.ntmps169
      go_wp2
      go_ret2
      exact ⟨by rw [HR.out]; rfl, Below.refl _ _⟩
    by_cases c2 : 2099 < y
    · go_enter Tryz.func169, Tryz.ntmps169
      go_wp2
      go_ret2
      exact ⟨by rw [HR.out]; rfl, Below.refl _ _⟩
    by_cases c3 : m < 1
    · go_enter Tryz.func169, Tryz.ntmps169
      go_wp2
      go_ret2
      exact ⟨by rw [HR.out]; rfl, Below.refl _ _⟩
    · have c4 : 12 < m := by omega
      clear hy
      go_enter Tryz.func169, Tryz.ntmps169
      go_wp2
      go_ret2
      exact ⟨by rw [HR.out]; rfl, Below.refl _ _⟩

set_option maxRecDepth 100000 in
set_option maxHeartbeats 1000000 in
theorem date_any (n : Int) (w : World) : Calls Tryz.prog 153 #[.int .i64 n] w fun e w' => e = .returned (.tuple #[.int .i64 (dateR n).1, .int .i64 (dateR n).2.1, .int .i64 (dateR n).2.2]) ∧ Below w.heap.size w w' := by
  cases hd : isDayB n
  · have HR : Hid (dateR n = (0, 0, 0)) := Lib.hid (date_out hd)
    go_enter Tryz.func153, Tryz.ntmps153
    go_wp2_with (go_at_call 152; refine (isDay_any _ _).mono ?_; rintro e w' ⟨rfl, rfl⟩)
    go_ret3
    exact ⟨by rw [HR.out]; rfl, Below.refl _ _⟩
  · have hn : 0 ≤ n ∧ n < 36525 := by simpa [isDayB] using hd
    have hy : 2000 ≤ yOf n ∧ yOf n ≤ 2099 := by unfold yOf; omega
    have HY := Lib.hid (yOf_in n)
    have hE : 2000 + 4 * n / 1461 = yOf n := rfl
    obtain ⟨y, hy1⟩ : ∃ y, yOf n = y := ⟨_, rfl⟩
    rw [hy1] at hy HY hE
    have HY1 := Lib.hid hy1
    clear hy1
    obtain ⟨A, hA⟩ : ∃ A, Hid (A = lensA y) := ⟨_, Lib.hid rfl⟩
    have hst := store_months hA
    have hsz := month_size hA
    have hY : 0 ≤ ysP y ∧ ysP y ≤ n ∧ n - ysP y ≤ 365 := by
      have a := HY.out
      have b := ys_next y
      have c := bef_all y
      have d := lp_two y
      have e := ys_mono 2000 y (by omega)
      rw [ys_first] at e
      omega
    have hY2 : Hid (n - ysP y < befP y 13) := Lib.hid (by have a := HY.out; have b := ys_next y; omega)
    go_enter Tryz.func153, Tryz.ntmps153
    go_wp2_with (first | (go_at_call 152; refine (isDay_any _ _).mono ?_; rintro e w' ⟨rfl, rfl⟩) | (go_at_call 203; refine (yearStart_any _ _ (by omega) (by omega)).mono ?_; rintro e w' ⟨rfl, rfl⟩) | (go_at_call 204; refine (months_of _ _ (by omega) (by omega) hA).mono ?_; rintro e wl ⟨rfl, hb⟩))
    go_loopw [6, 7, 9, 23] (fun vm vr v9 vi wr => ∃ (k : Nat) (r : Int), k ≤ 11 ∧ vi = .int .i64 k ∧ vm = .int .i64 ((k : Int) + 1) ∧ vr = .int .i64 r ∧ 0 ≤ r ∧ r ≤ 365 ∧ Hid (r = n - ysP y - befP y (k + 1)) ∧ ∃ c, wr = (wl.alloc (.cells A 229)).drewN c) (fun _ _ _ i _ => 11 - (intOf i).toNat)
    case atStart => exact ⟨0, n - ysP y, by omega, rfl, rfl, rfl, by omega, by omega, Lib.hid (by have := bef_one y; simp only [Int.natCast_zero, Int.zero_add, this]; omega), 0, rfl⟩
    case round =>
      obtain ⟨k, r, hk, rfl, rfl, rfl, r0, r1, HK, c, rfl⟩ := hrel
      by_cases hlt : k < 11
      · have hk2 : A[k]? = some (.int .i64 (lenP y ((k : Int) + 1))) := month_at hA k (by omega)
        have i1 : (k : Int) < 11 := by omega
        have i2 : k < 12 := by omega
        have i3 : (k : Int) < 12 := by omega
        have hb2 := len_range y ((k : Int) + 1)
        have HN := Lib.hid (bef_next y ((k : Int) + 1) (by omega) (by omega))
        obtain ⟨x, hx⟩ : ∃ x, Hid (x = lenP y ((k : Int) + 1)) := ⟨_, Lib.hid rfl⟩
        have hk3 : ∀ h : k < A.size, A[k]'h = .int .i64 (lenP y ((k : Int) + 1)) := fun h => by
          have e := hk2
          rw [Array.getElem?_eq_getElem h] at e
          injection e
        rw [← hx.out] at hk2 hk3 hb2
        by_cases hr : r < x
        · have HR : Hid (dateR n = (y, (k : Int) + 1, r + 1)) := Lib.hid (by
            have a := hx.out
            have b := HK.out
            exact date_of (ok_mk (by omega)) (by unfold numP; omega))
          go_wp2
          go_ret3
          exact ⟨by rw [HR.out]; rfl, below_drewN (hb.alloc hb.size _) _⟩
        · go_wp2
          go_quiet (fail)
          go_wp2
          go_roundw
          case rel => exact ⟨k + 1, r - x, by omega, by go_num, by go_num, rfl, by omega, by omega, Lib.hid (by have := HK.out; have := HN.out; have := hx.out; push_cast; omega), _, rfl⟩
          case measure => simp [intOf]; omega
      · have e : k = 11 := by omega
        have HR : Hid (dateR n = (y, 12, r + 1)) := Lib.hid (by
          subst e
          have a := hY2.out
          have b := HK.out
          have c : befP y 13 = befP y 12 + lenP y 12 := bef_next y 12 (by omega) (by omega)
          have d : ((11 : Nat) : Int) + 1 = 12 := rfl
          rw [d] at b
          exact date_of (ok_mk (by omega)) (by unfold numP; omega))
        subst e
        go_wp2
        go_ret3
        exact ⟨by rw [HR.out]; rfl, below_drewN (hb.alloc hb.size _) _⟩

end Go.Proofs.YtmmpalnalogfnaaGreatDoor

/- Walks of the reference's Length, Day and Date. -/
namespace Go.Proofs.YtmmpalnalogfnaaGreatDoor
open Go.RowKit
set_option linter.unusedSimpArgs false
set_option linter.unusedVariables false

set_option maxHeartbeats 1000000 in
theorem rlen_any (y m : Int) (w : World) (h0 : 0 ≤ y) (h1 : y ≤ 3000) : Calls Tryz.prog 207 #[.int .i64 y, .int .i64 m] w fun e w' => e = .returned (.int .i64 (lenP y m)) ∧ w = w' := by
  by_cases c : m = 4 ∨ m = 6 ∨ m = 9 ∨ m = 11
  · have HR : Hid (lenP y m = 30) := Lib.hid (by rw [lenP, if_pos c])
    rcases c with rfl | rfl | rfl | rfl
    all_goals
      go_enter Tryz.func207, Tryz.ntmps207
      go_wp2
      go_ret
      exact ⟨by rw [HR.out]; rfl, rfl⟩
  have a1 : (m == 4) = false := by rw [beq_eq_false_iff_ne]; omega
  have a2 : (m == 6) = false := by rw [beq_eq_false_iff_ne]; omega
  have a3 : (m == 9) = false := by rw [beq_eq_false_iff_ne]; omega
  have a4 : (m == 11) = false := by rw [beq_eq_false_iff_ne]; omega
  by_cases c2 : m = 2
  · subst c2
    by_cases c3 : y % 4 = 0
    · have HR : Hid (lenP y 2 = 29) := Lib.hid (by simp [lenP, c3])
      go_enter Tryz.func207, Tryz.ntmps207
      go_wp2
      go_ret
      exact ⟨by rw [HR.out]; rfl, rfl⟩
    · have HR : Hid (lenP y 2 = 28) := Lib.hid (by simp [lenP, c3])
      go_enter Tryz.func207, Tryz.ntmps207
      go_wp2
      go_ret
      exact ⟨by rw [HR.out]; rfl, rfl⟩
  · have HR : Hid (lenP y m = 31) := Lib.hid (by rw [lenP, if_neg c, if_neg c2])
    have a5 : (m == 2) = false := by rw [beq_eq_false_iff_ne]; exact c2
    clear c c2
    go_enter Tryz.func207, Tryz.ntmps207
    go_wp2
    go_ret
    exact ⟨by rw [HR.out]; rfl, rfl⟩

set_option maxRecDepth 100000 in
set_option maxHeartbeats 1000000 in
theorem rday_any (y m d : Int) (w : World) : Calls Tryz.prog 174 #[.int .i64 y, .int .i64 m, .int .i64 d] w fun e w' => e = .returned (.tuple #[.int .i64 (dayR y m d).1, .int .i64 (dayR y m d).2]) ∧ w = w' := by
  by_cases hy : 2000 ≤ y ∧ y ≤ 2099 ∧ 1 ≤ m ∧ m ≤ 12
  · obtain ⟨y0, y1, m0, m1⟩ := hy
    obtain ⟨L, hL⟩ : ∃ L, Hid (L = lenP y m) := ⟨_, Lib.hid rfl⟩
    have CL : Hid (∀ w, Calls Tryz.prog 207 #[.int .i64 y, .int .i64 m] w fun e w' => e = .returned (.int .i64 L) ∧ w = w') := Lib.hid (fun w => by rw [hL.out]; exact rlen_any y m w (by omega) (by omega))
    by_cases c5 : d < 1
    · have HR : Hid (dayR y m d = (0, 12)) := Lib.hid (by rw [dayR, if_neg]; rw [ok_not (by omega)]; simp)
      go_enter Tryz.func174, Tryz.ntmps174
      go_wp2
      go_ret2
      exact ⟨by rw [HR.out]; rfl, rfl⟩
    by_cases c6 : L < d
    · have HR : Hid (dayR y m d = (0, 12)) := Lib.hid (by have := hL.out; rw [dayR, if_neg]; rw [ok_not (by omega)]; simp)
      go_enter Tryz.func174, Tryz.ntmps174
      go_wp2_with (go_at_call 207; refine (CL.out _).mono ?_; rintro e w' ⟨rfl, rfl⟩)
      go_ret2
      exact ⟨by rw [HR.out]; rfl, rfl⟩
    have HR : Hid (dayR y m d = (ysP y + befP y m + d - 1, 0)) := Lib.hid (by have := hL.out; rw [dayR, if_pos (ok_mk (by omega))]; rfl)
    have hLb : L ≤ 31 := by have := hL.out; have := len_range y m; omega
    go_enter Tryz.func174, Tryz.ntmps174
    go_wp2_with (go_at_call 207; refine (CL.out _).mono ?_; rintro e w' ⟨rfl, rfl⟩)
    go_loop [8, 9] (fun vn vy => ∃ (z acc : Int), 2000 ≤ z ∧ z ≤ y ∧ vy = .int .i64 z ∧ vn = .int .i64 acc ∧ 0 ≤ acc ∧ acc ≤ 40 + 400 * (z - 2000) ∧ Hid (acc = ysP z + d - 1)) (fun _ vy => (y - intOf vy).toNat)
    case atStart => exact ⟨2000, d - 1, by omega, by omega, rfl, rfl, by omega, by omega, Lib.hid (by rw [ys_first]; omega)⟩
    case round =>
      obtain ⟨z, acc, z0, z1, rfl, rfl, a0, a1, HK⟩ := hrel
      by_cases hlt : z < y
      · go_wp2
        go_loop [8, 10] (fun vn vm => ∃ (k : Nat) (b : Int), 1 ≤ k ∧ k ≤ 13 ∧ vm = .int .i64 k ∧ vn = .int .i64 b ∧ 0 ≤ b ∧ b ≤ 40 + 400 * (z - 2000) + 31 * (k - 1) ∧ Hid (b = ysP z + d - 1 + befP z k)) (fun _ vm => 13 - (intOf vm).toNat)
        case atStart => exact ⟨1, acc, by omega, by omega, rfl, rfl, by omega, by omega, Lib.hid (by have := HK.out; have := bef_one z; simp only [Int.natCast_one, this]; omega)⟩
        case round =>
          obtain ⟨k, b, k0, k1, rfl, rfl, b0, b1, HB⟩ := hrel
          by_cases hk : k ≤ 12
          · have i1 : (k : Int) ≤ 12 := by omega
            obtain ⟨x, hx⟩ : ∃ x, Hid (x = lenP z k) := ⟨_, Lib.hid rfl⟩
            have hb2 := len_range z k
            rw [← hx.out] at hb2
            have CX : Hid (∀ w, Calls Tryz.prog 207 #[.int .i64 z, .int .i64 k] w fun e w' => e = .returned (.int .i64 x) ∧ w = w') := Lib.hid (fun w => by rw [hx.out]; exact rlen_any z k w (by omega) (by omega))
            have HN := Lib.hid (bef_next z k (by omega) (by omega))
            go_wp2_with (go_at_call 207; refine (CX.out _).mono ?_; rintro e w' ⟨rfl, rfl⟩)
            go_round
            case rel => exact ⟨k + 1, b + x, by omega, by omega, by go_num, rfl, by omega, by omega, Lib.hid (by have := HB.out; have := HN.out; have := hx.out; push_cast; omega)⟩
            case measure => simp [intOf]; omega
          · have e : k = 13 := by omega
            subst e
            have HB2 : Hid (b = ysP (z + 1) + d - 1) := Lib.hid (by
              have e : b = ysP z + d - 1 + befP z 13 := HB.out
              have f := ys_next z
              omega)
            have b1' : b ≤ 40 + 400 * (z - 2000) + 372 := by omega
            clear HB b1
            go_wp2
            go_round
            case rel => exact ⟨z + 1, b, by omega, by omega, rfl, rfl, by omega, by omega, HB2⟩
            case measure => simp [intOf]; omega
      · have e : z = y := by omega
        subst e
        have hacc : acc ≤ 40000 := by omega
        go_wp2
        go_loop [8, 11] (fun vn vm => ∃ (k : Nat) (b : Int), 1 ≤ k ∧ (k : Int) ≤ m ∧ vm = .int .i64 k ∧ vn = .int .i64 b ∧ 0 ≤ b ∧ b ≤ 40000 + 31 * k ∧ Hid (b = ysP z + d - 1 + befP z k)) (fun _ vm => (m - intOf vm).toNat)
        case atStart => exact ⟨1, acc, by omega, by omega, rfl, rfl, by omega, by omega, Lib.hid (by have := HK.out; have := bef_one z; simp only [Int.natCast_one, this]; omega)⟩
        case round =>
          obtain ⟨k, b, k0, k1, rfl, rfl, b0, b1, HB⟩ := hrel
          by_cases hk : (k : Int) < m
          · obtain ⟨x, hx⟩ : ∃ x, Hid (x = lenP z k) := ⟨_, Lib.hid rfl⟩
            have hb2 := len_range z k
            rw [← hx.out] at hb2
            have CX : Hid (∀ w, Calls Tryz.prog 207 #[.int .i64 z, .int .i64 k] w fun e w' => e = .returned (.int .i64 x) ∧ w = w') := Lib.hid (fun w => by rw [hx.out]; exact rlen_any z k w (by omega) (by omega))
            have HN := Lib.hid (bef_next z k (by omega) (by omega))
            go_wp2_with (go_at_call 207; refine (CX.out _).mono ?_; rintro e w' ⟨rfl, rfl⟩)
            go_round
            case rel => exact ⟨k + 1, b + x, by omega, by omega, by go_num, rfl, by omega, by omega, Lib.hid (by have := HB.out; have := HN.out; have := hx.out; push_cast; omega)⟩
            case measure => simp [intOf]; omega
          · have e : (k : Int) = m := by omega
            have HE : Hid (b = ysP z + befP z m + d - 1) := Lib.hid (by have h := HB.out; rw [e] at h; omega)
            clear e
            go_wp2
            go_ret2
            exact ⟨by rw [HR.out, HE.out]; rfl, rfl⟩
  · have HR : Hid (dayR y m d = (0, 12)) := Lib.hid (by rw [dayR, if_neg]; rw [ok_not (by omega)]; simp)
    by_cases c1 : y < 2000
    · go_enter Tryz.func174, Tryz.ntmps174
      go_wp2
      go_ret2
      exact ⟨by rw [HR.out]; rfl, rfl⟩
    by_cases c2 : 2099 < y
    · go_enter Tryz.func174, Tryz.ntmps174
      go_wp2
      go_ret2
      exact ⟨by rw [HR.out]; rfl, rfl⟩
    by_cases c3 : m < 1
    · go_enter Tryz.func174, Tryz.ntmps174
      go_wp2
      go_ret2
      exact ⟨by rw [HR.out]; rfl, rfl⟩
    · have c4 : 12 < m := by omega
      clear hy
      go_enter Tryz.func174, Tryz.ntmps174
      go_wp2
      go_ret2
      exact ⟨by rw [HR.out]; rfl, rfl⟩

set_option maxRecDepth 100000 in
set_option maxHeartbeats 1000000 in
theorem rdate_any (n : Int) (w : World) : Calls Tryz.prog 160 #[.int .i64 n] w fun e w' => e = .returned (.tuple #[.int .i64 (dateR n).1, .int .i64 (dateR n).2.1, .int .i64 (dateR n).2.2]) ∧ w = w' := by
  by_cases hn : 0 ≤ n ∧ n < 36525
  · go_enter Tryz.func160, Tryz.ntmps160
    go_wp2
    go_loop [0, 5, 6] (fun vr vy vm => ∃ (y m r : Int), 2000 ≤ y ∧ y ≤ 2099 ∧ 1 ≤ m ∧ m ≤ 12 ∧ 0 ≤ r ∧ r ≤ 36525 ∧ vy = .int .i64 y ∧ vm = .int .i64 m ∧ vr = .int .i64 r ∧ Hid (n = ysP y + befP y m + r)) (fun vr _ _ => (intOf vr).toNat)
    case atStart => exact ⟨2000, 1, n, by omega, by omega, by omega, by omega, by omega, by omega, rfl, rfl, rfl, Lib.hid (by rw [ys_first, bef_one]; omega)⟩
    case round =>
      obtain ⟨y, m, r, y0, y1, m0, m1, r0, r1, rfl, rfl, rfl, HK⟩ := hrel
      obtain ⟨x, hx⟩ : ∃ x, Hid (x = lenP y m) := ⟨_, Lib.hid rfl⟩
      have hb2 := len_range y m
      rw [← hx.out] at hb2
      have CX : Hid (∀ w, Calls Tryz.prog 207 #[.int .i64 y, .int .i64 m] w fun e w' => e = .returned (.int .i64 x) ∧ w = w') := Lib.hid (fun w => by rw [hx.out]; exact rlen_any y m w (by omega) (by omega))
      by_cases hr : x ≤ r
      · have HN := Lib.hid (bef_next y m m0 m1)
        by_cases hm : m = 12
        · have HK2 : Hid (n = ysP (y + 1) + befP (y + 1) 1 + (r - x)) := Lib.hid (by
            have a := HK.out
            have b := HN.out
            have c := ys_next y
            have e := hx.out
            have f := bef_one (y + 1)
            subst hm
            have g : befP y 13 = befP y 12 + lenP y 12 := b
            omega)
          have hy2 : y + 1 ≤ 2099 := by
            have a := HK2.out
            have f := bef_one (y + 1)
            by_cases c : y + 1 ≤ 2099
            · exact c
            · have := ys_mono 2100 (y + 1) (by omega)
              rw [ys_last] at this
              omega
          subst hm
          go_wp2_with (go_at_call 207; refine (CX.out _).mono ?_; rintro e w' ⟨rfl, rfl⟩)
          go_round
          case rel => exact ⟨y + 1, 1, r - x, by omega, hy2, by omega, by omega, by omega, by omega, rfl, rfl, rfl, HK2⟩
          case measure => simp [intOf]; omega
        · have HK2 : Hid (n = ysP y + befP y (m + 1) + (r - x)) := Lib.hid (by
            have a := HK.out
            have b := HN.out
            have e := hx.out
            omega)
          have hm2 : (m + 1 == 13) = false := by rw [beq_eq_false_iff_ne]; omega
          have hm3 : m ≤ 11 := by omega
          clear hm
          go_wp2_with (go_at_call 207; refine (CX.out _).mono ?_; rintro e w' ⟨rfl, rfl⟩)
          go_round
          case rel => exact ⟨y, m + 1, r - x, by omega, by omega, by omega, by omega, by omega, by omega, rfl, rfl, rfl, HK2⟩
          case measure => simp [intOf]; omega
      · have HR : Hid (dateR n = (y, m, r + 1)) := Lib.hid (by
          have a := hx.out
          have b := HK.out
          exact date_of (ok_mk (by omega)) (by unfold numP; omega))
        go_wp2_with (go_at_call 207; refine (CX.out _).mono ?_; rintro e w' ⟨rfl, rfl⟩)
        go_ret3
        exact ⟨by rw [HR.out]; rfl, rfl⟩
  · have HR : Hid (dateR n = (0, 0, 0)) := Lib.hid (date_out (by simpa [isDayB] using hn))
    by_cases h0 : n < 0
    · clear hn
      go_enter Tryz.func160, Tryz.ntmps160
      go_wp2
      go_ret3
      exact ⟨by rw [HR.out]; rfl, rfl⟩
    · have h1 : 36525 ≤ n := by omega
      clear hn
      go_enter Tryz.func160, Tryz.ntmps160
      go_wp2
      go_ret3
      exact ⟨by rw [HR.out]; rfl, rfl⟩

end Go.Proofs.YtmmpalnalogfnaaGreatDoor

/- Walks of Print and Clock, beside the reference's; of the tests and numbers of digits. -/
namespace Go.Proofs.YtmmpalnalogfnaaGreatDoor
open Go.RowKit
set_option linter.unusedSimpArgs false
set_option linter.unusedVariables false

theorem mk_app (a b : List UInt8) : (⟨a.toArray⟩ : ByteArray) ++ ⟨b.toArray⟩ = ⟨(a ++ b).toArray⟩ := by
  apply ByteArray.ext
  simp [ByteArray.data_append]
theorem two_acc (n : Int) (w w1 : World) (h0 : 0 ≤ n) (h1 : n ≤ 99) (hb : Below w.heap.size w w1) :
    Calls Tryz.prog 154 #[.int .i64 n] w1 fun e w' => e = .returned (.string ⟨(twoL n).toArray⟩) ∧ Below w.heap.size w w' :=
  (two_any n w1 h0 h1).mono (by rintro e w' ⟨rfl, h⟩; exact ⟨rfl, hb.trans (h.mono hb.size)⟩)
theorem rtwo_acc (n : Int) (w w1 : World) (h0 : 0 ≤ n) (h1 : n ≤ 99) (hb : Below w.heap.size w w1) :
    Calls Tryz.prog 161 #[.int .i64 n] w1 fun e w' => e = .returned (.string ⟨(twoL n).toArray⟩) ∧ Below w.heap.size w w' :=
  (rtwo_any n w1 h0 h1).mono (by rintro e w' ⟨rfl, h⟩; exact ⟨rfl, hb.trans (h.mono hb.size)⟩)

set_option maxHeartbeats 1000000 in
theorem print_any (n : Int) (w : World) : Calls Tryz.prog 96 #[.int .i64 n] w fun e w' => e = .returned (.string ⟨(printL n).toArray⟩) ∧ Below w.heap.size w w' := by
  cases hd : isDayB n
  · have HR : Hid (printL n = []) := Lib.hid (by simp [printL, hd])
    go_enter Tryz.func96, Tryz.ntmps96
    go_wp2_with (go_at_call 152; refine (isDay_any _ _).mono ?_; rintro e w' ⟨rfl, rfl⟩)
    go_ret
    exact ⟨by rw [HR.out]; rfl, Below.refl _ _⟩
  · have hD := (date_in hd).1
    obtain ⟨y, m, d, hR⟩ : ∃ y m d, dateR n = (y, m, d) := ⟨_, _, _, rfl⟩
    rw [hR] at hD
    have CD : Hid (∀ w, Calls Tryz.prog 153 #[.int .i64 n] w fun e w' => e = .returned (.tuple #[.int .i64 y, .int .i64 m, .int .i64 d]) ∧ Below w.heap.size w w') := Lib.hid (fun w => by have h := date_any n w; rw [hR] at h; exact h)
    have HR : Hid (printL n = dateL y m d) := Lib.hid (by rw [printL, if_pos hd, hR])
    obtain ⟨y0, y1, m0, m1, d0, d1⟩ : 2000 ≤ y ∧ y ≤ 2099 ∧ 1 ≤ m ∧ m ≤ 12 ∧ 1 ≤ d ∧ d ≤ lenP y m := ok_yes hD
    have hl := len_range y m
    clear hR hD
    have d2 : d ≤ 31 := by omega
    clear hl d1
    go_enter Tryz.func96, Tryz.ntmps96
    go_wp2_with (first | (go_at_call 154; refine (two_acc _ w _ (by omega) (by omega) hb).mono ?_; rintro e w' ⟨rfl, hb⟩) | (go_at_call 153; refine (CD.out _).mono ?_; rintro e w' ⟨rfl, hb⟩) | (go_at_call 152; refine (isDay_any _ _).mono ?_; rintro e w' ⟨rfl, rfl⟩))
    go_ret
    exact ⟨by rw [HR.out]; simp only [dateL, ← mk_app]; rfl, hb⟩
set_option maxHeartbeats 1000000 in
theorem rprint_any (n : Int) (w : World) : Calls Tryz.prog 106 #[.int .i64 n] w fun e w' => e = .returned (.string ⟨(printL n).toArray⟩) ∧ Below w.heap.size w w' := by
  have hb : Below w.heap.size w w := Below.refl _ _
  cases hd : isDayB n
  · have HR : Hid (printL n = []) := Lib.hid (by simp [printL, hd])
    have CD : Hid (∀ w, Calls Tryz.prog 160 #[.int .i64 n] w fun e w' => e = .returned (.tuple #[.int .i64 0, .int .i64 0, .int .i64 0]) ∧ w = w') := Lib.hid (fun w => by have h := rdate_any n w; rw [date_out hd] at h; exact h)
    go_enter Tryz.func106, Tryz.ntmps106
    go_wp2_with (go_at_call 160; refine (CD.out _).mono ?_; rintro e w' ⟨rfl, rfl⟩)
    go_ret
    exact ⟨by rw [HR.out]; rfl, hb⟩
  · have hD := (date_in hd).1
    obtain ⟨y, m, d, hR⟩ : ∃ y m d, dateR n = (y, m, d) := ⟨_, _, _, rfl⟩
    rw [hR] at hD
    have CD : Hid (∀ w, Calls Tryz.prog 160 #[.int .i64 n] w fun e w' => e = .returned (.tuple #[.int .i64 y, .int .i64 m, .int .i64 d]) ∧ w = w') := Lib.hid (fun w => by have h := rdate_any n w; rw [hR] at h; exact h)
    have HR : Hid (printL n = dateL y m d) := Lib.hid (by rw [printL, if_pos hd, hR])
    obtain ⟨y0, y1, m0, m1, d0, d1⟩ : 2000 ≤ y ∧ y ≤ 2099 ∧ 1 ≤ m ∧ m ≤ 12 ∧ 1 ≤ d ∧ d ≤ lenP y m := ok_yes hD
    have hl := len_range y m
    clear hR hD
    have d2 : d ≤ 31 := by omega
    have hy : (y == 0) = false := by rw [beq_eq_false_iff_ne]; omega
    clear hl d1
    go_enter Tryz.func106, Tryz.ntmps106
    go_wp2_with (first | (go_at_call 161; refine (rtwo_acc _ w _ (by omega) (by omega) hb).mono ?_; rintro e w' ⟨rfl, hb⟩) | (go_at_call 160; refine (CD.out _).mono ?_; rintro e w' ⟨rfl, rfl⟩))
    go_ret
    exact ⟨by rw [HR.out]; simp only [dateL, ← mk_app]; rfl, hb⟩
end Go.Proofs.YtmmpalnalogfnaaGreatDoor

/- Walks of digits and Print. -/
namespace Go.Proofs.YtmmpalnalogfnaaGreatDoor.Per
open Go.RowKit
set_option linter.unusedSimpArgs false
set_option linter.unusedVariables false

theorem byteT : ByteT Tryz.prog 142 5 := ⟨Tryz.underlying142, Tryz.underlying5, by kernel_rfl⟩
/-- the digits of the weekdays, of the first k -/
def digTo (d k : Nat) : List UInt8 := ((List.range k).filter fun i => d.testBit i).map fun i => UInt8.ofNat (49 + i)
def digL (d : Int) : List UInt8 := digTo d.toNat 7
theorem digTo_hit (d k : Nat) (h : d.testBit k = true) : digTo d (k + 1) = digTo d k ++ [UInt8.ofNat (49 + k)] := by
  rw [digTo, List.range_succ, List.filter_append]; simp [digTo, h]
theorem digTo_miss (d k : Nat) (h : d.testBit k = false) : digTo d (k + 1) = digTo d k := by
  rw [digTo, List.range_succ, List.filter_append]; simp [digTo, h]
theorem digTo_len (d k : Nat) : (digTo d k).length ≤ k := by
  rw [digTo, List.length_map]
  exact Nat.le_trans (List.length_filter_le _ _) (by simp)
theorem dig_cells (k : Nat) (h : k < 7) : (Lib.byteCells [UInt8.ofNat (49 + k)]).toArray = #[.int .u8 (49 + k)] := by
  have : k = 0 ∨ k = 1 ∨ k = 2 ∨ k = 3 ∨ k = 4 ∨ k = 5 ∨ k = 6 := by omega
  rcases this with rfl | rfl | rfl | rfl | rfl | rfl | rfl <;> rfl

set_option maxRecDepth 100000 in
set_option maxHeartbeats 2000000 in
theorem pdigits_any (f t d : Int) (w : World) (h0 : 0 ≤ d) (h1 : d ≤ 127) : Calls Tryz.prog 97 #[encQ (f, t, d)] w fun e w' => e = .returned (.string ⟨(digL d).toArray⟩) ∧ Below w.heap.size w w' := by
  have hB : Box3 w w.heap.size (f, t, d) (w.alloc (.cells #[.int .i64 f, .int .i64 t, .int .i64 d] 23)) := Box3.new w (f, t, d) _
  have hsz : (w.alloc (.cells #[.int .i64 f, .int .i64 t, .int .i64 d] 23)).heap.size = w.heap.size + 1 := by simp
  go_enter Tryz.func97, Tryz.ntmps97
  go_wp2
  generalize w.alloc (.cells #[.int .i64 f, .int .i64 t, .int .i64 d] 23) = w1 at *
  go_loopw [3, 5] (fun vb vi wr => ∃ k : Nat, k ≤ 7 ∧ vi = .int .i64 k ∧ Buf 5 w1.heap.size w1 wr vb (digTo d.toNat k)) (fun _ vi _ => 7 - (intOf vi).toNat)
  case atStart => exact ⟨0, by omega, rfl, Buf.nil (Below.refl _ _) (Nat.le_refl _)⟩
  case round =>
    obtain ⟨k, hk, rfl, hO⟩ := hrel
    by_cases hlt : k < 7
    · have hB1 := hB.more hO.bel
      obtain ⟨c0, c1, c2, c3⟩ := hB1
      have i1 : (k : Int) < 7 := by omega
      have CH := Lib.hid (fun W => hasWd_any f t d k W h0 h1 hlt)
      have hl := digTo_len d.toNat k
      cases hw : d.toNat.testBit k
      · have HN := Lib.hid (digTo_miss d.toNat k hw)
        rw [hw] at CH
        clear hw
        go_wp2_with (go_at_call 137; refine (CH.out _).mono ?_; rintro e w2 ⟨rfl, hb⟩)
        go_roundw
        case rel => exact ⟨k + 1, by omega, by go_num, by rw [HN.out]; exact hO.more hb⟩
        case measure => simp [intOf]; omega
      · have HN := Lib.hid (digTo_hit d.toNat k hw)
        have HC := Lib.hid (dig_cells k hlt)
        rw [hw] at CH
        clear hw
        go_wp2_with (first | (go_at_call 137; refine (CH.out _).mono ?_; rintro e w2 ⟨rfl, hb⟩; have hO2 := hO.more hb) | (refine wpList_app byteT rfl _ _ rfl _ (digTo d.toNat k) rfl (hO2.alloc _) _ [UInt8.ofNat (49 + k)] 1 _ rfl rfl (by omega) HC.out.symm (heap_alloc_new _ _) (by omega) ?_; intro v' w3 hO3))
        go_roundw
        case rel => exact ⟨k + 1, by omega, by go_num, by rw [HN.out]; exact hO3⟩
        case measure => simp [intOf]; omega
    · have e : k = 7 := by omega
      subst e
      have HT := hO.text byteT Tryz.underlying9
      go_wp2
      go_ret
      exact ⟨rfl, hB.2.2.2.trans (hO.bel.mono (by omega))⟩

theorem print_len10 (n : Int) : (printL n).length ≤ 10 := by
  unfold printL
  split
  · simp [dateL, twoL]
  · simp
/-- a period as text -/
def perL (p : Per) : List UInt8 := if okQ p then printL p.1 ++ [47] ++ printL p.2.1 ++ [47] ++ digL p.2.2 else []
set_option maxHeartbeats 2000000 in
theorem pprint_any (f t d : Int) (w : World) : Calls Tryz.prog 36 #[encQ (f, t, d)] w fun e w' => e = .returned (.string ⟨(perL (f, t, d)).toArray⟩) ∧ Below w.heap.size w w' := by
  have hb := bel_alloc w (.cells #[.int .i64 f, .int .i64 t, .int .i64 d] 23)
  cases h : okQ (f, t, d)
  · have HR : Hid (perL (f, t, d) = []) := Lib.hid (by simp [perL, h])
    have CV := Lib.hid (fun W => isValid_any f t d W)
    rw [h] at CV
    clear h
    go_enter Tryz.func36, Tryz.ntmps36
    go_wp2_with (go_at_call 95; refine (CV.out _).mono ?_; rintro e w1 ⟨rfl, hb1⟩)
    go_ret
    exact ⟨by rw [HR.out]; rfl, hb.trans (hb1.mono hb.size)⟩
  · have hq := okQ_yes h
    have HR : Hid (perL (f, t, d) = printL f ++ [47] ++ printL t ++ [47] ++ digL d) := Lib.hid (by rw [perL, if_pos h])
    have CV := Lib.hid (fun W => isValid_any f t d W)
    rw [h] at CV
    have hB0 : Box3 w w.heap.size (f, t, d) (w.alloc (.cells #[.int .i64 f, .int .i64 t, .int .i64 d] 23)) := Box3.new w (f, t, d) _
    have C1 := Lib.hid (Box3.call (w := w) (B := w.heap.size) (p := (f, t, d)) (fun W => print_any f W))
    have C2 := Lib.hid (Box3.call (w := w) (B := w.heap.size) (p := (f, t, d)) (fun W => print_any t W))
    have C3 := Lib.hid (Box3.call (w := w) (B := w.heap.size) (p := (f, t, d)) (fun W => pdigits_any f t d W (by have := hq.2.2.2.2.1; simp at this; omega) hq.2.2.2.2.2))
    have f0 : ∀ x : Wd (Box3 w w.heap.size (f, t, d)), x.w.cell? ⟨w.heap.size, 0, none⟩ = some (.int .i64 f) := fun x => x.ok.1
    have f1 : ∀ x : Wd (Box3 w w.heap.size (f, t, d)), x.w.cell? ⟨w.heap.size, 1, none⟩ = some (.int .i64 t) := fun x => x.ok.2.1
    have f2 : ∀ x : Wd (Box3 w w.heap.size (f, t, d)), x.w.cell? ⟨w.heap.size, 2, none⟩ = some (.int .i64 d) := fun x => x.ok.2.2.1
    clear h hq
    obtain ⟨s1, hs1⟩ : ∃ s : ByteArray, s = ⟨(printL f).toArray⟩ := ⟨_, rfl⟩
    obtain ⟨s2, hs2⟩ : ∃ s : ByteArray, s = ⟨(printL t).toArray⟩ := ⟨_, rfl⟩
    obtain ⟨s3, hs3⟩ : ∃ s : ByteArray, s = ⟨(digL d).toArray⟩ := ⟨_, rfl⟩
    rw [← hs1] at C1
    rw [← hs2] at C2
    rw [← hs3] at C3
    have HS : Hid ((((s1 ++ ⟨#[47]⟩) ++ s2) ++ ⟨#[47]⟩) ++ s3 = (⟨(printL f ++ [47] ++ printL t ++ [47] ++ digL d).toArray⟩ : ByteArray)) := Lib.hid (by
      rw [hs1, hs2, hs3]; simp only [← mk_app])
    have z1 : s1.size ≤ 10 := by rw [hs1]; exact print_len10 f
    have z2 : s2.size ≤ 10 := by rw [hs2]; exact print_len10 t
    have z3 : s3.size ≤ 7 := by rw [hs3]; exact digTo_len _ _
    clear hs1 hs2 hs3
    have A1 := fun W => run_string_add_sum (P := Tryz.prog) (w := W) s1 (⟨#[47]⟩ : ByteArray) (by show s1.size + 1 ≤ _; omega)
    have A2 := fun W => run_string_add_sum (P := Tryz.prog) (w := W) (s1 ++ ⟨#[47]⟩) s2 (by rw [ByteArray.size_append]; show s1.size + 1 + s2.size ≤ _; omega)
    have A3 := fun W => run_string_add_sum (P := Tryz.prog) (w := W) ((s1 ++ ⟨#[47]⟩) ++ s2) (⟨#[47]⟩ : ByteArray) (by rw [ByteArray.size_append, ByteArray.size_append]; show s1.size + 1 + s2.size + 1 ≤ _; omega)
    have A4 := fun W => run_string_add_sum (P := Tryz.prog) (w := W) (((s1 ++ ⟨#[47]⟩) ++ s2) ++ ⟨#[47]⟩) s3 (by rw [ByteArray.size_append, ByteArray.size_append, ByteArray.size_append]; show s1.size + 1 + s2.size + 1 + s3.size ≤ _; omega)
    go_enter Tryz.func36, Tryz.ntmps36
    go_wp2_with (go_at_call 95; refine (CV.out _).mono ?_; rintro e w1 ⟨rfl, hb1⟩)
    have hB1 := (hB0.more hb1).more (Below.refl _ _).drew
    have hNe : Nonempty (Wd (Box3 w w.heap.size (f, t, d))) := ⟨⟨_, hB1⟩⟩
    refine quietS (S := Box3 w w.heap.size (f, t, d)) (by kernel_rfl) (by kernel_rfl) (hB1) ?_
    repeat (first | go_big_quiet_skip | (go_big_quiet_want; go_big_quiet_op; first | go_big_quiet_on | go_big_quiet_call ((first | (go_at_call 96; first | (with_reducible exact quiet_S (C1.out _ (Wd.ok _))) | (with_reducible exact quiet_S (C2.out _ (Wd.ok _)))) | (go_at_call 97; exact quiet_S (C3.out _ (Wd.ok _)))))))
    refine wpQuiet_nil ?_
    rintro W ⟨⟨_, hW⟩, rfl⟩
    go_wp2
    go_ret
    exact ⟨by rw [HR.out, ← HS.out]; rfl, hW.2.2.2⟩

end Go.Proofs.YtmmpalnalogfnaaGreatDoor.Per

/- Plain: a text cut at a byte; the weekdays of a text; a period read from a text. -/
namespace Go.Proofs.YtmmpalnalogfnaaGreatDoor.Per
set_option linter.unusedSimpArgs false
set_option linter.unusedVariables false

/-- what comes before, put on the first part -/
def glue (p : List UInt8) : List (List UInt8) → List (List UInt8)
  | [] => [p]
  | h :: t => (p ++ h) :: t
/-- a text cut at each slash -/
def cutL : List UInt8 → List (List UInt8)
  | [] => [[]]
  | c :: r => if c = 47 then [] :: cutL r else glue [c] (cutL r)
theorem glue_ne (p : List UInt8) (l : List (List UInt8)) : glue p l ≠ [] := by cases l <;> simp [glue]
theorem cutL_ne (l : List UInt8) : cutL l ≠ [] := by
  cases l with
  | nil => simp [cutL]
  | cons c r => rw [cutL]; split <;> simp [glue_ne]
theorem glue_glue (p : List UInt8) (c : UInt8) (l : List (List UInt8)) : glue p (glue [c] l) = glue (p ++ [c]) l := by
  cases l <;> simp [glue]
theorem glue_nil (l : List (List UInt8)) (h : l ≠ []) : glue [] l = l := by
  cases l with
  | nil => exact absurd rfl h
  | cons a t => rfl
theorem cut_hit (r : List UInt8) : cutL (47 :: r) = [] :: cutL r := by rw [cutL, if_pos rfl]
theorem cut_miss {c : UInt8} (h : c ≠ 47) (r : List UInt8) : cutL (c :: r) = glue [c] (cutL r) := by rw [cutL, if_neg h]
theorem glue_len {p : List UInt8} {l : List (List UInt8)} (h : l ≠ []) : (glue p l).length = l.length := by
  cases l with
  | nil => exact absurd rfl h
  | cons a t => rfl
theorem cut_le (l : List UInt8) : (cutL l).length ≤ l.length + 1 := by
  induction l with
  | nil => simp [cutL]
  | cons c r ih =>
    by_cases h : c = 47
    · subst h; rw [cut_hit]; simp; omega
    · rw [cut_miss h, glue_len (cutL_ne r)]; simp; omega
theorem cut_index (l : List UInt8) : (Lib.indexByte l 47 = -1 ∧ cutL l = [l]) ∨ ∃ i : Nat, Lib.indexByte l 47 = i ∧ i < l.length ∧ cutL l = l.take i :: cutL (l.drop (i + 1)) := by
  induction l with
  | nil => left; exact ⟨rfl, rfl⟩
  | cons c r ih =>
    by_cases h : c = 47
    · subst h
      right
      exact ⟨0, by simp [Lib.indexByte], by simp, by rw [cut_hit]; simp⟩
    · rw [cut_miss h]
      rcases ih with ⟨h1, h2⟩ | ⟨i, h1, hl, h2⟩
      · left
        exact ⟨by simp [Lib.indexByte, h, h1], by rw [h2]; rfl⟩
      · right
        exact ⟨i + 1, by simp [Lib.indexByte, h, h1] <;> omega, by simp <;> omega, by rw [h2]; rfl⟩
theorem split_cut (n : Nat) : ∀ l : List UInt8, (Lib.splitK [47] 0 n l).length = min (cutL l).length (n + 1) ∧ ((cutL l).length ≤ n + 1 → Lib.splitK [47] 0 n l = cutL l) := by
  induction n with
  | zero =>
    intro l
    have h := cutL_ne l
    rw [show Lib.splitK [47] 0 0 l = [l] from rfl]
    have h3 : 1 ≤ (cutL l).length := by cases hc : cutL l with
      | nil => exact absurd hc h
      | cons _ _ => simp
    refine ⟨by simp; omega, fun h2 => ?_⟩
    rcases cut_index l with ⟨_, h1⟩ | ⟨i, _, _, h1⟩
    · exact h1.symm
    · exfalso
      rw [h1] at h2
      simp at h2
      exact cutL_ne _ h2
  | succ n ih =>
    intro l
    rcases cut_index l with ⟨h0, h1⟩ | ⟨i, h0, hl, h1⟩
    · have e : Lib.splitK [47] 0 (n + 1) l = [l] := by
        rw [Lib.splitK, Lib.index_one, h0]; rfl
      rw [e, h1]
      exact ⟨by simp <;> omega, fun _ => rfl⟩
    · have e : Lib.splitK [47] 0 (n + 1) l = l.take i :: Lib.splitK [47] 0 n (l.drop (i + 1)) := by
        rw [Lib.splitK, Lib.index_one, h0, if_neg (by simp <;> omega)]; simp
      obtain ⟨i1, i2⟩ := ih (l.drop (i + 1))
      rw [e, h1]
      refine ⟨by simp [i1] <;> omega, fun h2 => ?_⟩
      rw [i2 (by simp at h2; omega)]
/-- what SplitN of at most four parts gives -/
theorem split_four (s : ByteArray) (L : List ByteArray) (h : L = Lib.splitB ⟨#[47]⟩ 0 (min 4 (s.size + 1) - 1) s) :
    ((cutL s.data.toList).length ≠ 3 → L.length ≠ 3) ∧ ((cutL s.data.toList).length = 3 → L.map (·.data.toList) = cutL s.data.toList) := by
  have e : L.map (·.data.toList) = Lib.splitK [47] 0 (min 4 (s.size + 1) - 1) s.data.toList := by rw [h, Lib.splitB_data]
  have hs : s.data.toList.length = s.size := by simp
  have hle := cut_le s.data.toList
  obtain ⟨h1, h2⟩ := split_cut (min 4 (s.size + 1) - 1) s.data.toList
  rw [← e, List.length_map] at h1
  constructor
  · intro h3; omega
  · intro h3; rw [e]; exact h2 (by omega)

/-! ### the weekdays -/
/-- the weekdays of digits, behind those of d -/
def dgF (d : Nat) : List UInt8 → Int × Int
  | [] => if d = 0 then (0, 3) else (d, 0)
  | c :: r => if c.toNat < 49 ∨ 55 < c.toNat then (0, 3) else if 2 ^ (c.toNat - 49) ≤ d then (0, 3) else dgF (d + 2 ^ (c.toNat - 49)) r
theorem dg_low {d : Nat} {c : UInt8} {r : List UInt8} (h : (c.toNat : Int) < 49) : dgF d (c :: r) = (0, 3) := by rw [dgF, if_pos (.inl (by omega))]
theorem dg_high {d : Nat} {c : UInt8} {r : List UInt8} (h : 55 < (c.toNat : Int)) : dgF d (c :: r) = (0, 3) := by rw [dgF, if_pos (.inr (by omega))]
theorem dg_old {d : Nat} {c : UInt8} {r : List UInt8} (h : 2 ^ (c.toNat - 49) ≤ d) : dgF d (c :: r) = (0, 3) := by
  rw [dgF]; split
  · rfl
  · rfl
theorem dg_next {d : Nat} {c : UInt8} {r : List UInt8} (h1 : ¬ (c.toNat : Int) < 49) (h2 : ¬ 55 < (c.toNat : Int)) (h : ¬ 2 ^ (c.toNat - 49) ≤ d) : dgF d (c :: r) = dgF (d + 2 ^ (c.toNat - 49)) r := by
  rw [dgF, if_neg (by omega), if_neg h]
/-! ### a period -/
/-- a period read from three parts -/
def per3 (a b c : List UInt8) : Per × Int :=
  if (parseP a).2 ≠ 0 then ((0, 0, 0), (parseP a).2)
  else if (parseP b).2 ≠ 0 then ((0, 0, 0), (parseP b).2)
  else if (dgF 0 c).2 ≠ 0 then ((0, 0, 0), (dgF 0 c).2)
  else if errQ ((parseP a).1, (parseP b).1, (dgF 0 c).1) ≠ 0 then ((0, 0, 0), errQ ((parseP a).1, (parseP b).1, (dgF 0 c).1))
  else (((parseP a).1, (parseP b).1, (dgF 0 c).1), 0)
/-- a period read from a text -/
def perR (l : List UInt8) : Per × Int :=
  match cutL l with
  | [a, b, c] => per3 a b c
  | _ => ((0, 0, 0), 3)
theorem perR_len {l : List UInt8} (h : (cutL l).length ≠ 3) : perR l = ((0, 0, 0), 3) := by
  rw [perR]
  split
  · rename_i hc; rw [hc] at h; exact absurd rfl h
  · rfl
theorem perR_three {l a b c : List UInt8} (h : cutL l = [a, b, c]) : perR l = per3 a b c := by rw [perR, h]
theorem per3_a {a b c : List UInt8} (h : (parseP a).2 ≠ 0) : per3 a b c = ((0, 0, 0), (parseP a).2) := by rw [per3, if_pos h]
theorem per3_b {a b c : List UInt8} (h0 : (parseP a).2 = 0) (h : (parseP b).2 ≠ 0) : per3 a b c = ((0, 0, 0), (parseP b).2) := by rw [per3, if_neg (by simp [h0]), if_pos h]
theorem per3_c {a b c : List UInt8} (h0 : (parseP a).2 = 0) (h1 : (parseP b).2 = 0) (h : (dgF 0 c).2 ≠ 0) : per3 a b c = ((0, 0, 0), (dgF 0 c).2) := by rw [per3, if_neg (by simp [h0]), if_neg (by simp [h1]), if_pos h]
theorem per3_d {a b c : List UInt8} (h0 : (parseP a).2 = 0) (h1 : (parseP b).2 = 0) (h2 : (dgF 0 c).2 = 0) (h : errQ ((parseP a).1, (parseP b).1, (dgF 0 c).1) ≠ 0) :
    per3 a b c = ((0, 0, 0), errQ ((parseP a).1, (parseP b).1, (dgF 0 c).1)) := by rw [per3, if_neg (by simp [h0]), if_neg (by simp [h1]), if_neg (by simp [h2]), if_pos h]
theorem per3_ok {a b c : List UInt8} (h0 : (parseP a).2 = 0) (h1 : (parseP b).2 = 0) (h2 : (dgF 0 c).2 = 0) (h : errQ ((parseP a).1, (parseP b).1, (dgF 0 c).1) = 0) :
    per3 a b c = (((parseP a).1, (parseP b).1, (dgF 0 c).1), 0) := by rw [per3, if_neg (by simp [h0]), if_neg (by simp [h1]), if_neg (by simp [h2]), if_neg (by simp [h])]

end Go.Proofs.YtmmpalnalogfnaaGreatDoor.Per

/- Walk of readDigits. -/
namespace Go.Proofs.YtmmpalnalogfnaaGreatDoor.Per
open Go.RowKit
set_option linter.unusedSimpArgs false
set_option linter.unusedVariables false

theorem or_new (d j : Nat) (hd : d < 128) (hj : j < 7) (h : d < 2 ^ j) : bits .or .i64 (d : Int) ((2 ^ j : Nat) : Int) = ((d + 2 ^ j : Nat) : Int) := by
  have h2 : 2 ^ j < 128 := by
    have : j = 0 ∨ j = 1 ∨ j = 2 ∨ j = 3 ∨ j = 4 ∨ j = 5 ∨ j = 6 := by omega
    rcases this with rfl | rfl | rfl | rfl | rfl | rfl | rfl <;> decide
  rw [or7 d (2 ^ j) hd h2, or_add d hd j hj, Nat.div_eq_of_lt h]
  rfl
theorem at_byte (s : ByteArray) (k : Nat) (h : k < s.size) : s.data.toList.drop k = s[k] :: s.data.toList.drop (k + 1) := by
  rw [List.drop_eq_getElem_cons (by simpa using h)]; rfl

set_option maxRecDepth 100000 in
set_option maxHeartbeats 2000000 in
theorem readDigits_any (s : ByteArray) (w : World) (hs : s.size ≤ 1000) : Calls Tryz.prog 117 #[.string s] w fun e w' => e = .returned (.tuple #[.int .i64 (dgF 0 s.data.toList).1, .int .i64 (dgF 0 s.data.toList).2]) ∧ w = w' := by
  go_enter Tryz.func117, Tryz.ntmps117
  go_wp2
  go_loop [4, 9] (fun vd vi => ∃ k d : Nat, k ≤ s.size ∧ d < 128 ∧ vi = .int .i64 (k : Int) ∧ vd = .int .i64 (d : Int) ∧ Hid (dgF 0 s.data.toList = dgF d (s.data.toList.drop k))) (fun _ i => s.size - (intOf i).toNat)
  case atStart => exact ⟨0, 0, by omega, by omega, rfl, rfl, Lib.hid rfl⟩
  case round =>
    obtain ⟨k, d, hk, hd, rfl, rfl, HG⟩ := hrel
    by_cases hlt : k < s.size
    · have i1 : (k : Int) < (s.size : Int) := by omega
      have HA := Lib.hid (at_byte s k hlt)
      by_cases c1 : (s[k].toNat : Int) < 49
      · have HR : Hid (dgF 0 s.data.toList = (0, 3)) := Lib.hid (by rw [HG.out, HA.out]; exact dg_low c1)
        clear HG HA
        go_wp2
        go_ret2
        exact ⟨by rw [HR.out]; rfl, rfl⟩
      by_cases c2 : 55 < (s[k].toNat : Int)
      · have HR : Hid (dgF 0 s.data.toList = (0, 3)) := Lib.hid (by rw [HG.out, HA.out]; exact dg_high c2)
        clear HG HA
        go_wp2
        go_ret2
        exact ⟨by rw [HR.out]; rfl, rfl⟩
      have HO : Hid (2 ^ (s[k].toNat - 49) ≤ d → dgF 0 s.data.toList = (0, 3)) := Lib.hid (fun h => by rw [HG.out, HA.out]; exact dg_old h)
      have HN : Hid (¬ 2 ^ (s[k].toNat - 49) ≤ d → dgF 0 s.data.toList = dgF (d + 2 ^ (s[k].toNat - 49)) (s.data.toList.drop (k + 1))) := Lib.hid (fun h => by rw [HG.out, HA.out]; exact dg_next c1 c2 h)
      clear HG HA
      have hj : s[k].toNat = 49 ∨ s[k].toNat = 50 ∨ s[k].toNat = 51 ∨ s[k].toNat = 52 ∨ s[k].toNat = 53 ∨ s[k].toNat = 54 ∨ s[k].toNat = 55 := by omega
      clear c1 c2
      rcases hj with hj | hj | hj | hj | hj | hj | hj
      · have c0 : (s[k].toNat : Int) = 49 := by omega
        rw [hj] at HO HN
        clear hj
        by_cases hle : 1 ≤ d
        · have HR : Hid (dgF 0 s.data.toList = (0, 3)) := Lib.hid (HO.out (by simpa using hle))
          have o1 : (1 : Int) ≤ (d : Int) := by omega
          clear HO HN hle
          go_wp2
          go_ret2
          exact ⟨by rw [HR.out]; rfl, rfl⟩
        · have HG : Hid (dgF 0 s.data.toList = dgF (d + 1) (s.data.toList.drop (k + 1))) := Lib.hid (HN.out (by simpa using hle))
          have o1 : ¬ (1 : Int) ≤ (d : Int) := by omega
          have o2 : bits .or .i64 (d : Int) 1 = ((d + 1 : Nat) : Int) := or_new d 0 hd (by omega) (by omega)
          have hd2 : d + 1 < 128 := by omega
          clear HO HN
          go_wp2
          go_round
          case rel => exact ⟨k + 1, d + 1, by omega, hd2, by go_num, rfl, HG⟩
          case measure => simp [intOf]; omega
      · have c0 : (s[k].toNat : Int) = 50 := by omega
        rw [hj] at HO HN
        clear hj
        by_cases hle : 2 ≤ d
        · have HR : Hid (dgF 0 s.data.toList = (0, 3)) := Lib.hid (HO.out (by simpa using hle))
          have o1 : (2 : Int) ≤ (d : Int) := by omega
          clear HO HN hle
          go_wp2
          go_ret2
          exact ⟨by rw [HR.out]; rfl, rfl⟩
        · have HG : Hid (dgF 0 s.data.toList = dgF (d + 2) (s.data.toList.drop (k + 1))) := Lib.hid (HN.out (by simpa using hle))
          have o1 : ¬ (2 : Int) ≤ (d : Int) := by omega
          have o2 : bits .or .i64 (d : Int) 2 = ((d + 2 : Nat) : Int) := or_new d 1 hd (by omega) (by omega)
          have hd2 : d + 2 < 128 := by omega
          clear HO HN
          go_wp2
          go_round
          case rel => exact ⟨k + 1, d + 2, by omega, hd2, by go_num, rfl, HG⟩
          case measure => simp [intOf]; omega
      · have c0 : (s[k].toNat : Int) = 51 := by omega
        rw [hj] at HO HN
        clear hj
        by_cases hle : 4 ≤ d
        · have HR : Hid (dgF 0 s.data.toList = (0, 3)) := Lib.hid (HO.out (by simpa using hle))
          have o1 : (4 : Int) ≤ (d : Int) := by omega
          clear HO HN hle
          go_wp2
          go_ret2
          exact ⟨by rw [HR.out]; rfl, rfl⟩
        · have HG : Hid (dgF 0 s.data.toList = dgF (d + 4) (s.data.toList.drop (k + 1))) := Lib.hid (HN.out (by simpa using hle))
          have o1 : ¬ (4 : Int) ≤ (d : Int) := by omega
          have o2 : bits .or .i64 (d : Int) 4 = ((d + 4 : Nat) : Int) := or_new d 2 hd (by omega) (by omega)
          have hd2 : d + 4 < 128 := by omega
          clear HO HN
          go_wp2
          go_round
          case rel => exact ⟨k + 1, d + 4, by omega, hd2, by go_num, rfl, HG⟩
          case measure => simp [intOf]; omega
      · have c0 : (s[k].toNat : Int) = 52 := by omega
        rw [hj] at HO HN
        clear hj
        by_cases hle : 8 ≤ d
        · have HR : Hid (dgF 0 s.data.toList = (0, 3)) := Lib.hid (HO.out (by simpa using hle))
          have o1 : (8 : Int) ≤ (d : Int) := by omega
          clear HO HN hle
          go_wp2
          go_ret2
          exact ⟨by rw [HR.out]; rfl, rfl⟩
        · have HG : Hid (dgF 0 s.data.toList = dgF (d + 8) (s.data.toList.drop (k + 1))) := Lib.hid (HN.out (by simpa using hle))
          have o1 : ¬ (8 : Int) ≤ (d : Int) := by omega
          have o2 : bits .or .i64 (d : Int) 8 = ((d + 8 : Nat) : Int) := or_new d 3 hd (by omega) (by omega)
          have hd2 : d + 8 < 128 := by omega
          clear HO HN
          go_wp2
          go_round
          case rel => exact ⟨k + 1, d + 8, by omega, hd2, by go_num, rfl, HG⟩
          case measure => simp [intOf]; omega
      · have c0 : (s[k].toNat : Int) = 53 := by omega
        rw [hj] at HO HN
        clear hj
        by_cases hle : 16 ≤ d
        · have HR : Hid (dgF 0 s.data.toList = (0, 3)) := Lib.hid (HO.out (by simpa using hle))
          have o1 : (16 : Int) ≤ (d : Int) := by omega
          clear HO HN hle
          go_wp2
          go_ret2
          exact ⟨by rw [HR.out]; rfl, rfl⟩
        · have HG : Hid (dgF 0 s.data.toList = dgF (d + 16) (s.data.toList.drop (k + 1))) := Lib.hid (HN.out (by simpa using hle))
          have o1 : ¬ (16 : Int) ≤ (d : Int) := by omega
          have o2 : bits .or .i64 (d : Int) 16 = ((d + 16 : Nat) : Int) := or_new d 4 hd (by omega) (by omega)
          have hd2 : d + 16 < 128 := by omega
          clear HO HN
          go_wp2
          go_round
          case rel => exact ⟨k + 1, d + 16, by omega, hd2, by go_num, rfl, HG⟩
          case measure => simp [intOf]; omega
      · have c0 : (s[k].toNat : Int) = 54 := by omega
        rw [hj] at HO HN
        clear hj
        by_cases hle : 32 ≤ d
        · have HR : Hid (dgF 0 s.data.toList = (0, 3)) := Lib.hid (HO.out (by simpa using hle))
          have o1 : (32 : Int) ≤ (d : Int) := by omega
          clear HO HN hle
          go_wp2
          go_ret2
          exact ⟨by rw [HR.out]; rfl, rfl⟩
        · have HG : Hid (dgF 0 s.data.toList = dgF (d + 32) (s.data.toList.drop (k + 1))) := Lib.hid (HN.out (by simpa using hle))
          have o1 : ¬ (32 : Int) ≤ (d : Int) := by omega
          have o2 : bits .or .i64 (d : Int) 32 = ((d + 32 : Nat) : Int) := or_new d 5 hd (by omega) (by omega)
          have hd2 : d + 32 < 128 := by omega
          clear HO HN
          go_wp2
          go_round
          case rel => exact ⟨k + 1, d + 32, by omega, hd2, by go_num, rfl, HG⟩
          case measure => simp [intOf]; omega
      · have c0 : (s[k].toNat : Int) = 55 := by omega
        rw [hj] at HO HN
        clear hj
        by_cases hle : 64 ≤ d
        · have HR : Hid (dgF 0 s.data.toList = (0, 3)) := Lib.hid (HO.out (by simpa using hle))
          have o1 : (64 : Int) ≤ (d : Int) := by omega
          clear HO HN hle
          go_wp2
          go_ret2
          exact ⟨by rw [HR.out]; rfl, rfl⟩
        · have HG : Hid (dgF 0 s.data.toList = dgF (d + 64) (s.data.toList.drop (k + 1))) := Lib.hid (HN.out (by simpa using hle))
          have o1 : ¬ (64 : Int) ≤ (d : Int) := by omega
          have o2 : bits .or .i64 (d : Int) 64 = ((d + 64 : Nat) : Int) := or_new d 6 hd (by omega) (by omega)
          have hd2 : d + 64 < 128 := by omega
          clear HO HN
          go_wp2
          go_round
          case rel => exact ⟨k + 1, d + 64, by omega, hd2, by go_num, rfl, HG⟩
          case measure => simp [intOf]; omega
    · have e : k = s.size := by omega
      subst e
      have HE : Hid (dgF 0 s.data.toList = dgF d []) := Lib.hid (by rw [HG.out, List.drop_eq_nil_of_le (by simp)])
      clear HG
      by_cases hz : d = 0
      · subst hz
        have HR : Hid (dgF 0 s.data.toList = (0, 3)) := Lib.hid (by rw [HE.out]; rfl)
        clear HE
        go_wp2
        go_ret2
        exact ⟨by rw [HR.out]; rfl, rfl⟩
      · have HR : Hid (dgF 0 s.data.toList = ((d : Int), 0)) := Lib.hid (by rw [HE.out, dgF, if_neg hz])
        have hz2 : ((d : Int) == 0) = false := by rw [beq_eq_false_iff_ne]; omega
        clear HE hz
        go_wp2
        go_ret2
        exact ⟨by rw [HR.out]; rfl, rfl⟩

end Go.Proofs.YtmmpalnalogfnaaGreatDoor.Per

/- Walk of the reference's Cut. -/
namespace Go.Proofs.YtmmpalnalogfnaaGreatDoor.Per
open Go.RowKit
set_option linter.unusedSimpArgs false
set_option linter.unusedVariables false

theorem strT : StrT Tryz.prog 81 9 := ⟨Tryz.underlying81, by kernel_rfl⟩
/-- the text from f to k -/
def midL (s : ByteArray) (f k : Nat) : List UInt8 := (s.extract f k).data.toList
theorem mid_snoc (s : ByteArray) (f k : Nat) (h : f ≤ k) (hk : k < s.size) : midL s f (k + 1) = midL s f k ++ [s[k]] := by
  unfold midL
  rw [Lib.extract_data, Lib.extract_data, show k + 1 - f = (k - f) + 1 by omega, List.take_succ_eq_append_getElem (by simp; omega)]
  simp [show f + (k - f) = k by omega]
  rfl
theorem mid_nil (s : ByteArray) (f : Nat) : midL s f f = [] := by
  unfold midL; rw [Lib.extract_data]; simp
abbrev listsOf (ss : List ByteArray) : List (List UInt8) := ss.map (·.data.toList)
theorem cut_start (s : ByteArray) : cutL s.data.toList = listsOf [] ++ glue (midL s 0 0) (cutL (s.data.toList.drop 0)) := by
  rw [mid_nil, glue_nil _ (cutL_ne _)]; rfl
theorem cut_at {s : ByteArray} {ss : List ByteArray} {f k : Nat} (hk : k < s.size) (h : cutL s.data.toList = listsOf ss ++ glue (midL s f k) (cutL (s.data.toList.drop k))) (hc : s[k] = 47) :
    cutL s.data.toList = listsOf (ss ++ [s.extract f k]) ++ glue (midL s (k + 1) (k + 1)) (cutL (s.data.toList.drop (k + 1))) := by
  rw [h, at_byte s k hk, hc, cut_hit, mid_nil, glue_nil _ (cutL_ne _)]
  simp [glue, midL]
theorem cut_on {s : ByteArray} {ss : List ByteArray} {f k : Nat} (hf : f ≤ k) (hk : k < s.size) (h : cutL s.data.toList = listsOf ss ++ glue (midL s f k) (cutL (s.data.toList.drop k))) (hc : s[k] ≠ 47) :
    cutL s.data.toList = listsOf ss ++ glue (midL s f (k + 1)) (cutL (s.data.toList.drop (k + 1))) := by
  rw [h, at_byte s k hk, cut_miss hc, glue_glue, mid_snoc s f k hf hk]
theorem cut_stop {s : ByteArray} {ss : List ByteArray} {f : Nat} (h : cutL s.data.toList = listsOf ss ++ glue (midL s f s.size) (cutL (s.data.toList.drop s.size))) :
    cutL s.data.toList = listsOf (ss ++ [s.extract f s.size]) := by
  rw [h, List.drop_eq_nil_of_le (by simp)]
  simp [glue, cutL, midL]

set_option maxRecDepth 100000 in
set_option maxHeartbeats 2000000 in
theorem cut_any (s : ByteArray) (w : World) (hs : s.size ≤ 1000) : Calls Tryz.prog 121 #[.string s, .int .u8 47] w fun e w' => ∃ v ss, e = .returned v ∧ StrL w' v ss ∧ cutL s.data.toList = listsOf ss ∧ Below w.heap.size w w' := by
  have h0 := Lib.hid (cut_start s)
  go_enter Tryz.func121, Tryz.ntmps121
  go_wp2
  go_loopw [5, 6, 7] (fun vo vf vi wr => ∃ (ss : List ByteArray) (f k : Nat), f ≤ k ∧ k ≤ s.size + 1 ∧ vf = .int .i64 (f : Int) ∧ vi = .int .i64 (k : Int) ∧ ss.length ≤ k ∧ SOwn 9 w.heap.size wr vo ss ∧ Below w.heap.size w wr ∧ Hid (k ≤ s.size → cutL s.data.toList = listsOf ss ++ glue (midL s f k) (cutL (s.data.toList.drop k))) ∧ Hid (k = s.size + 1 → cutL s.data.toList = listsOf ss)) (fun _ _ vi _ => s.size + 2 - (intOf vi).toNat)
  case atStart => exact ⟨[], 0, 0, by omega, by omega, rfl, rfl, by simp, SOwn.nil (Nat.le_refl _), Below.refl _ _, Lib.hid (fun _ => h0.out), Lib.hid (by omega)⟩
  case round =>
    obtain ⟨ss, f, k, hf, hk, rfl, rfl, hl, hO, hB, HC, HF⟩ := hrel
    by_cases hlt : k < s.size
    · have hk' : k ≤ s.size := by omega
      clear HF
      have i1 : (k : Int) ≤ (s.size : Int) := by omega
      have i2 : ((k : Int) == (s.size : Int)) = false := by rw [beq_eq_false_iff_ne]; omega
      by_cases c : s[k] = 47
      · have q1 : ((s[k].toNat : Int) == 47) = true := by rw [c]; rfl
        have HC2 := Lib.hid (cut_at hlt (HC.out hk') c)
        clear HC c
        go_wp2_with (at_builtin; refine wpList_sapp strT rfl _ _ rfl _ ss rfl (hO.alloc _) _ (s.extract f k) _ rfl (heap_alloc_new _ _) (by omega) ?_; intro v' w3 hO4 hb4)
        go_roundw
        case rel => exact ⟨ss ++ [s.extract f k], k + 1, k + 1, by omega, by omega, by go_num, by go_num, by simp; omega, hO4, (hB.alloc (by exact hB.size) _).trans (hb4), Lib.hid (fun _ => HC2.out), Lib.hid (by omega)⟩
        case measure => simp [intOf]; omega
      · have q1 : ((s[k].toNat : Int) == 47) = false := by
          rw [beq_eq_false_iff_ne]; intro e; exact c (UInt8.toNat_inj.1 (by have : (47 : UInt8).toNat = 47 := rfl; omega))
        have HC2 := Lib.hid (cut_on hf hlt (HC.out hk') c)
        clear HC c
        go_wp2
        go_roundw
        case rel => exact ⟨ss, f, k + 1, by omega, by omega, rfl, by go_num, by omega, hO, hB, Lib.hid (fun _ => HC2.out), Lib.hid (by omega)⟩
        case measure => simp [intOf]; omega
    · by_cases e : k = s.size
      · subst e
        have i1 : (s.size : Int) ≤ (s.size : Int) := by omega
        have HC2 := Lib.hid (cut_stop (HC.out (Nat.le_refl _)))
        clear HC HF
        go_wp2_with (at_builtin; refine wpList_sapp strT rfl _ _ rfl _ ss rfl (hO.alloc _) _ (s.extract f s.size) _ rfl (heap_alloc_new _ _) (by omega) ?_; intro v' w3 hO4 hb4)
        go_roundw
        case rel => exact ⟨ss ++ [s.extract f s.size], s.size + 1, s.size + 1, by omega, by omega, by go_num, by go_num, by simp; omega, hO4, (hB.alloc (by exact hB.size) _).trans (hb4), Lib.hid (by omega), Lib.hid (fun _ => HC2.out)⟩
        case measure => simp [intOf] <;> omega
      · have HR := Lib.hid (HF.out (by omega))
        have i1 : ¬ (k : Int) ≤ (s.size : Int) := by omega
        clear HC HF
        go_wp2
        go_ret
        exact ⟨_, rfl, ss, hO.strL, HR.out, hB⟩

end Go.Proofs.YtmmpalnalogfnaaGreatDoor.Per

/- Walks of the reference's Has and Days; of equal lists. -/
namespace Go.Proofs.YtmmpalnalogfnaaGreatDoor.Per
open Go.RowKit
set_option linter.unusedSimpArgs false
set_option linter.unusedVariables false

theorem quo_bit (d : Int) (k : Nat) (h0 : 0 ≤ d) : ((d / ((2 ^ k : Nat) : Int)).tmod 2 == 1) = d.toNat.testBit k := by
  have e : ((2 ^ k : Nat) : Int) = (2 : Int) ^ k := by simp
  rw [e, tmod_pos _ _ (Int.ediv_nonneg h0 (Int.pow_nonneg (by omega))), shr_bit d k h0]
  cases d.toNat.testBit k <;> rfl
end Go.Proofs.YtmmpalnalogfnaaGreatDoor.Per

/- The iterator over the days of a period: its contract, over whatever loop. -/
namespace Go.Proofs.YtmmpalnalogfnaaGreatDoor.Per
open Go.RowKit Go.Shelf
set_option linter.unusedSimpArgs false
set_option linter.unusedVariables false
attribute [local go_sem] Oper.semAt_some

/-- a day that there is -/
abbrev Dy := { x : Int // 0 ≤ x ∧ x < 36525 }
abbrev encD (x : Dy) : Array Value := #[.int .i64 x.1]
abbrev perT : TypeId := 23
/-- block B holds the period p -/
def BoxAt (W : World) (B : Nat) (p : Per) : Prop := W.heap[B]? = some (.cells #[.int .i64 p.1, .int .i64 p.2.1, .int .i64 p.2.2] perT (0, 0))
theorem BoxAt.cell {W : World} {B : Nat} {p : Per} (h : BoxAt W B p) : W.cell? ⟨B, 0, none⟩ = some (.int .i64 p.1) ∧ W.cell? ⟨B, 1, none⟩ = some (.int .i64 p.2.1) ∧ W.cell? ⟨B, 2, none⟩ = some (.int .i64 p.2.2) :=
  ⟨cell_of_row _ _ 0 _ _ (0, 0) h, cell_of_row _ _ 1 _ _ (0, 0) h, cell_of_row _ _ 2 _ _ (0, 0) h⟩
theorem BoxAt.lt {W : World} {B : Nat} {p : Per} (h : BoxAt W B p) : B < W.heap.size := (Array.getElem?_eq_some_iff.1 h).1
theorem BoxAt.more {W W' : World} {B : Nat} {p : Per} (h : BoxAt W B p) (hb : Below W.heap.size W W') : BoxAt W' B p := (hb.block B h.lt).trans h
theorem BoxAt.drew' {W : World} {B : Nat} {p : Per} (h : BoxAt W B p) : BoxAt W.drew B p := h.more (Below.refl _ _).drew
/-- what a round keeps -/
def KpB (n₀ B : Nat) (W W' : World) : Prop := Below n₀ W W' ∧ W'.heap[B]? = W.heap[B]?
theorem kp_t {n₀ B : Nat} {X Y Z : World} (h : KpB n₀ B X Y) (k : KpB n₀ B Y Z) : KpB n₀ B X Z := ⟨h.1.trans k.1, k.2.trans h.2⟩
theorem kp_b {n₀ B : Nat} {w : World} (hn : n₀ ≤ w.heap.size) (hB : B < w.heap.size) (W : World) (l : Nat) (o o' : Obj) (hl : w.heap.size ≤ l) (h : W.heap[l]? = some o) (h1 : o.isCells = false) (h2 : o.isWalk = false) : KpB n₀ B W (W.putObj l o') :=
  ⟨belowK_b hn W l o o' hl h h1 h2, World.putObj_heap_other (by omega)⟩
theorem grown_of_below {W W' : World} (h : Below W.heap.size W W') : W.grownBy W' none := ⟨h.os, h.tape, h.output, h.size, fun k hk _ => h.block k hk⟩
theorem abide_below {β : Type} {B : Nat} {J : β → World → Prop} (hJ : AbidesFrom B J) {s : β} {W W' : World} (h : J s W) (hb : Below W.heap.size W W') : J s W' :=
  hJ s W W' none h (grown_of_below hb) (fun r e => by cases e)

/-- the days as numbers -/
def vals (l : List Dy) : List Int := l.map (·.1)
theorem vals_snoc (l : List Dy) (x : Dy) : vals (l ++ [x]) = vals l ++ [x.1] := by simp [vals]
theorem vals_len (l : List Dy) : (vals l).length = l.length := by simp [vals]
theorem wide_fn (f : Nat) : Fence.wide.fn f := trivial
attribute [local simp] wide_fn
theorem quietSIn {F : Fence} {n : Nat} {P : Program} {S : World → Prop} {id : Nat} {Q : Exit → Act → World → Prop} {a : Act} {w : World} {l : List Oper} (hro : F.round = none) (hm : P.follows .mixedOrders = true) (hB : Region.lexB .any l.toArray = true) (hC : S w.drew)
    (h : wpQuietIn F n P l.toArray (fun w' => ∃ x : Wd S, w' = x.w) (fun a' => ∀ w', (∃ x : Wd S, w' = x.w) → Q .normal a' w') l a) : (Code.region id l.toArray true).wpIn F n P Q a w :=
  wpIn_region_quiet (C := fun w' => ∃ x : Wd S, w' = x.w) hro hm hB ⟨⟨_, hC⟩, rfl⟩ (by simpa using h)
theorem quiet_SIn {F : Fence} {n : Nat} {P : Program} {f : FuncId} {args : Array Value} {W : World} {S : World → Prop} {v : Value} (h : CallsIn F n P f args W fun e w' => e = .returned v ∧ S w') :
    CallsIn F n P f args W fun e w'' => e = .returned v ∧ ∃ x : Wd S, w'' = x.w := h.mono (by rintro e w' ⟨he, hs⟩; exact ⟨he, ⟨w', hs⟩, rfl⟩)
/-- a world of a round before its yield -/
def InRd (J : List Dy → World → Prop) (pre : List Dy) (B : Nat) (p : Per) (W : World) : Prop := J pre W ∧ BoxAt W B p
theorem inRd_call {J : List Dy → World → Prop} {B0 : Nat} (hJa : AbidesFrom B0 J) {pre : List Dy} {B : Nat} {p : Per} {f : Nat} {args : Array Value} {v : Value} (h : ∀ W, Calls Tryz.prog f args W fun e w' => e = .returned v ∧ Below W.heap.size W w') (W : World) (hi : InRd J pre B p W) :
    CallsIn Fence.wide 8 Tryz.prog f args W fun e w' => e = .returned v ∧ InRd J pre B p w' :=
  callsIn_wide.2 ((h W).mono (by rintro e w' ⟨he, hb⟩; exact ⟨he, abide_below hJa hi.1 hb, hi.2.more hb⟩))

theorem yield_two {F : Fence} {m : Nat} {P : Program} {l : Nat} {fn : FuncId} {tmps : Array Value} {assign body : Code} {W : World} {R1 R2 : World → Prop}
    (h : RoundIn F m P l fn tmps assign body W fun e W' => (e = .returned (.bool true) ∧ R1 W') ∨ (e = .returned (.bool false) ∧ R2 W')) :
    RoundIn F m P l fn tmps assign body W fun e W' => ∃ b, e = .returned (.bool b) ∧ (b = true → R1 W') ∧ (b = false → R2 W') := h.mono (by
  rintro e W' (⟨rfl, h⟩ | ⟨rfl, h⟩)
  · exact ⟨true, rfl, fun _ => h, fun e => (nomatch e)⟩
  · exact ⟨false, rfl, fun e => (nomatch e), fun _ => h⟩)

set_option maxRecDepth 100000 in
set_option maxHeartbeats 2000000 in
theorem each1_in (l Bn n₀ : Nat) (f t d : Int) (J Jx : List Dy → World → Prop) (B0 : Nat) (hJa : AbidesFrom B0 J)
    (hY : ∀ pre x W, J pre W → pre.length < 800 → YieldAt Fence.wide 8 Tryz.prog l (encD x) W fun e W' =>
      (e = .returned (.bool true) ∧ J (pre ++ [x]) W' ∧ KpB n₀ Bn W W') ∨ (e = .returned (.bool false) ∧ Jx (pre ++ [x]) W'))
    (W : World) (hBn : BoxAt W Bn (f, t, d)) (h0 : J [] W) :
    CallsIn Fence.wide 9 Tryz.prog 222 #[.func (.yield l) #[] #[], .pointer (some ⟨Bn, 0, none⟩)] W fun e W' => (∃ v, e = .returned v) ∧
      ((∃ ys : List Dy, vals ys = daysQ (f, t, d) ∧ J ys W') ∨ (∃ pre, True ∧ Jx pre W')) := by
  obtain ⟨c0, c1, c2⟩ := hBn.cell
  have CV := isValid_any f t d W
  cases h : okQ (f, t, d)
  · rw [h] at CV
    refine callsIn_of_wp Tryz.func222 rfl trivial ?_ rfl
    simp only [Tryz.ntmps222, List.size_toArray, List.length_cons, List.length_nil, Nat.reduceAdd, Nat.reduceSub, Array.replicate_succ, Array.replicate_zero, List.push_toArray, List.append_toArray, List.nil_append, List.cons_append]
    gi_wp2_with (gi_at_call 95; refine (callsIn_wide.2 CV).mono ?_; rintro e w' ⟨rfl, hb⟩)
    refine bodyPost_ret (results_none rfl _ _ _) rfl ?_
    exact ⟨⟨_, rfl⟩, .inl ⟨[], by rw [daysQ_no h]; rfl, abide_below hJa h0 hb⟩⟩
  · rw [h] at CV
    have hq := okQ_yes h
    have q0 : 0 ≤ f := hq.1
    have q1 : f ≤ t := hq.2.1
    have q2 : t < 36525 := hq.2.2.1
    have q3 : t - f < 800 := hq.2.2.2.1
    have q4 : 1 ≤ d := hq.2.2.2.2.1
    have q5 : d ≤ 127 := hq.2.2.2.2.2
    have hlen : lenQ (f, t, d) = (t - f + 1).toNat := rfl
    have HD := Lib.hid (daysQ_yes h)
    clear h hq
    refine callsIn_of_wp Tryz.func222 rfl trivial ?_ rfl
    simp only [Tryz.ntmps222, List.size_toArray, List.length_cons, List.length_nil, Nat.reduceAdd, Nat.reduceSub, Array.replicate_succ, Array.replicate_zero, List.push_toArray, List.append_toArray, List.nil_append, List.cons_append]
    gi_wp2_with (gi_at_call 95; refine (callsIn_wide.2 CV).mono ?_; rintro e w' ⟨rfl, hb⟩; have hBn2 := hBn.more hb; have c0' := hBn2.cell.1)
    gi_loopw [3] (fun i wr => ∃ (k : Nat) (pre : List Dy), k ≤ lenQ (f, t, d) ∧ i = .int .i64 (f + k) ∧ Hid (vals pre = daysTo (f, t, d) k) ∧ J pre wr ∧ BoxAt wr Bn (f, t, d)) (fun i _ => (t + 1 - intOf i).toNat)
    case atStart => exact ⟨0, [], Nat.zero_le _, by simp, Lib.hid rfl, abide_below hJa h0 hb, hBn2⟩
    case round =>
      clear CV hb hBn2 c0' c0 c1 c2 hBn h0
      obtain ⟨k, pre, hk, rfl, HP, hJ, hB⟩ := hrel
      obtain ⟨g0, g1, g2⟩ := hB.cell
      by_cases hlt : k < lenQ (f, t, d)
      · have x1 : 0 ≤ f + (k : Int) := by omega
        have x2 : f + (k : Int) < 36525 := by omega
        have x3 : f + (k : Int) ≤ t := by omega
        have hpl : pre.length < 800 := by
          have h1 := daysTo_len (f, t, d) k
          rw [← HP.out, vals_len] at h1
          omega
        have CW := Lib.hid (inRd_call hJa (pre := pre) (B := Bn) (p := (f, t, d)) (fun W => wk_any (f + k) W (by omega) (by omega)))
        have CH := Lib.hid (inRd_call hJa (pre := pre) (B := Bn) (p := (f, t, d)) (fun W => hasWd_any f t d (wkN (f + k)) W (by omega) (by omega) (wkN_lt _)))
        have hI : InRd J pre Bn (f, t, d) wr.drew := ⟨abide_below hJa hJ (Below.refl _ _).drew, hB.drew'⟩
        have g0' : ∀ x : Wd (InRd J pre Bn (f, t, d)), x.w.cell? ⟨Bn, 0, none⟩ = some (.int .i64 f) := fun x => x.ok.2.cell.1
        have g1' : ∀ x : Wd (InRd J pre Bn (f, t, d)), x.w.cell? ⟨Bn, 1, none⟩ = some (.int .i64 t) := fun x => x.ok.2.cell.2.1
        have g2' : ∀ x : Wd (InRd J pre Bn (f, t, d)), x.w.cell? ⟨Bn, 2, none⟩ = some (.int .i64 d) := fun x => x.ok.2.cell.2.2
        cases hw : wdB d (f + k)
        · rw [show d.toNat.testBit (wkN (f + k)) = false from hw] at CH
          have HN := Lib.hid (daysTo_miss (f, t, d) k hw)
          clear hw
          generalize wkN (f + k) = wk at *
          gi_wp2
          have hNe : Nonempty (Wd (InRd J pre Bn (f, t, d))) := ⟨⟨_, hI⟩⟩
          refine quietSIn (S := InRd J pre Bn (f, t, d)) rfl (by kernel_rfl) (by kernel_rfl) (hI) ?_
          repeat (first | gi_big_quiet_skip | (gi_big_quiet_want; gi_big_quiet_op; first | go_big_quiet_on | gi_big_quiet_call ((first | (gi_at_call 138; exact quiet_SIn (CW.out _ (Wd.ok _))) | (gi_at_call 137; exact quiet_SIn (CH.out _ (Wd.ok _)))))))
          refine wpQuietIn_nil ?_
          rintro W ⟨⟨_, hW⟩, rfl⟩
          gi_wp2
          go_roundw
          case rel => exact ⟨k + 1, pre, by omega, by congr 1; omega, Lib.hid (by rw [HP.out, HN.out]), hW.1, hW.2⟩
          case measure => simp [intOf]; omega
        · rw [show d.toNat.testBit (wkN (f + k)) = true from hw] at CH
          have HN := Lib.hid (daysTo_hit (f, t, d) k hw)
          clear hw
          have HY := Lib.hid hY
          clear hY
          generalize wkN (f + k) = wk at *
          gi_wp2
          gi_region_with (first | (gi_at_call 138; refine (CW.out _ hI).mono ?_; rintro e w2 ⟨rfl, hI2⟩; have k0 := hI2.2.cell.1; have k1 := hI2.2.cell.2.1; have k2 := hI2.2.cell.2.2) | (gi_at_call 137; refine (CH.out _ hI2).mono ?_; rintro e w3 ⟨rfl, hI3⟩; obtain ⟨fn, tmps, assign, body, hy, hR⟩ := HY.out pre ⟨f + k, x1, x2⟩ w3 hI3.1 hpl; dsimp only [encD] at hy) | (refine (yield_two hR).mono ?_; rintro e W3 ⟨b, rfl, hb1, hb2⟩))
          all_goals
            cases b
            · have hx := hb2 rfl
              gi_wp2
              refine bodyPost_ret (results_none rfl _ _ _) rfl ?_
              exact ⟨⟨_, rfl⟩, .inr ⟨_, hx⟩⟩
            · obtain ⟨hJ3, hk3⟩ := hb1 rfl
              gi_wp2
              go_roundw
              case rel => exact ⟨k + 1, pre ++ [⟨f + k, x1, x2⟩], by omega, by congr 1; omega, Lib.hid (by rw [vals_snoc, HP.out, HN.out]), hJ3, hk3.2.trans hI3.2⟩
              case measure => simp [intOf]; omega
      · have e : k = lenQ (f, t, d) := by omega
        subst e
        gi_wp2
        go_end0
        exact ⟨⟨_, rfl⟩, .inl ⟨pre, by rw [HP.out, HD.out], hJ⟩⟩

/-- the contract of the iterator's value -/
theorem each_stops (Bn n₀ : Nat) (p : Per) (w : World) (hBn : BoxAt w Bn p) :
    SeqStopsK Fence.wide 9 Tryz.prog 222 #[.pointer (some ⟨Bn, 0, none⟩)] encD (KpB n₀ Bn) (fun ys => vals ys = daysQ p) (fun _ => True) 800 w := fun l J Jx W hW hJ _ hY h0 =>
  each1_in l Bn n₀ p.1 p.2.1 p.2.2 J Jx W.heap.size hJ hY W (hBn.more hW) h0
set_option maxHeartbeats 1000000 in
/-- 'each(p)': the period is boxed; the function value captures the box -/
theorem each_any (p : Per) (w : World) : CallsIn Fence.wide 9 Tryz.prog 185 #[encQ p] w fun e w' => e = .returned (.func (.func 222) #[] #[.pointer (some ⟨w.heap.size, 0, none⟩)]) ∧ w' = w.alloc (.cells #[.int .i64 p.1, .int .i64 p.2.1, .int .i64 p.2.2] perT) := by
  refine callsIn_of_wp Tryz.func185 rfl trivial ?_ rfl
  simp only [Tryz.ntmps185, List.size_toArray, List.length_cons, List.length_nil, Nat.reduceAdd, Nat.reduceSub, Array.replicate_succ, Array.replicate_zero, List.push_toArray, List.append_toArray, List.nil_append, List.cons_append]
  gi_wp2
  go_ret
  exact ⟨rfl, rfl⟩

end Go.Proofs.YtmmpalnalogfnaaGreatDoor.Per

/- Words for memory: lists of numbers and of periods, as slices. -/
namespace Go.Proofs.YtmmpalnalogfnaaGreatDoor.Per
open Go.RowKit
set_option linter.unusedSimpArgs false
set_option linter.unusedVariables false

/-- the slice value v holds the numbers l, in memory that lies in w -/
def IntL (w : World) (v : Value) (l : List Int) : Prop :=
  ∃ A c, v = .slice A l.length c ∧ (l = [] ∨ ∃ b o, A = some ⟨b, o, none⟩ ∧ b < w.heap.size ∧ ∀ i (h : i < l.length), w.cell? ⟨b, o + i, none⟩ = some (.int .i64 l[i]))
theorem IntL.more {w w' : World} {v : Value} {l : List Int} (h : IntL w v l) (hb : Below w.heap.size w w') : IntL w' v l := by
  obtain ⟨A, c, rfl, h⟩ := h
  refine ⟨A, c, rfl, ?_⟩
  rcases h with h | ⟨b, o, rfl, hlt, hc⟩
  · exact .inl h
  · exact .inr ⟨b, o, rfl, Nat.lt_of_lt_of_le hlt hb.size, fun i hi => (hb.cell (p := ⟨b, o + i, none⟩) hlt).trans (hc i hi)⟩
theorem IntL.of_own {e : TypeId} {B : Nat} {w : World} {v : Value} {l : List Int} (h : w.ownsRow B e 1 v l.length (l.map (Value.int .i64))) : IntL w v l := by
  cases l with
  | nil =>
    rcases h.2 with ⟨rfl, _⟩ | ⟨g, cap, cur, rfl, _⟩
    · exact ⟨none, 0, rfl, .inl rfl⟩
    · exact ⟨_, cap, rfl, .inl rfl⟩
  | cons x r =>
    obtain ⟨g, cap, rfl, _, hlt⟩ := h.form (by simp)
    refine ⟨_, cap, rfl, .inr ⟨g, 0, rfl, hlt, fun i hi => ?_⟩⟩
    have := h.cells (g := g) rfl i (.int .i64 (x :: r)[i]) (by rw [List.getElem?_map, List.getElem?_eq_getElem hi]; rfl)
    have hadd : (⟨g, 0, none⟩ : Addr).add i = ⟨g, 0 + i, none⟩ := by unfold Addr.add; split <;> simp_all
    rw [← hadd]
    exact this
/-- the cells of periods, one behind the other -/
def cellsQ (l : List Per) : List Value := l.flatMap fun p => [.int .i64 p.1, .int .i64 p.2.1, .int .i64 p.2.2]
theorem cellsQ_at : ∀ (l : List Per) (i : Nat) (h : i < l.length), (cellsQ l)[i * 3]? = some (.int .i64 l[i].1) ∧ (cellsQ l)[i * 3 + 1]? = some (.int .i64 l[i].2.1) ∧ (cellsQ l)[i * 3 + 2]? = some (.int .i64 l[i].2.2)
  | [], i, h => by simp at h
  | x :: r, 0, h => by simp [cellsQ]
  | x :: r, i + 1, h => by
    have ih := cellsQ_at r i (by simpa using h)
    have e : cellsQ (x :: r) = .int .i64 x.1 :: .int .i64 x.2.1 :: .int .i64 x.2.2 :: cellsQ r := by simp [cellsQ]
    rw [e, show (i + 1) * 3 = i * 3 + 1 + 1 + 1 by omega, show i * 3 + 1 + 1 + 1 + 1 = (i * 3 + 1) + 1 + 1 + 1 by omega, show i * 3 + 1 + 1 + 1 + 2 = (i * 3 + 2) + 1 + 1 + 1 by omega]
    simp only [List.getElem?_cons_succ, List.getElem_cons_succ]
    exact ih
/-- the slice value v holds the periods l, in memory that lies in w -/
def PerL (w : World) (v : Value) (l : List Per) : Prop :=
  ∃ A c, v = .slice A l.length c ∧ (l = [] ∨ ∃ b o, A = some ⟨b, o, none⟩ ∧ b < w.heap.size ∧ ∀ i (h : i < l.length), w.cell? ⟨b, o + i * 3, none⟩ = some (.int .i64 l[i].1) ∧ w.cell? ⟨b, o + i * 3 + 1, none⟩ = some (.int .i64 l[i].2.1) ∧ w.cell? ⟨b, o + i * 3 + 2, none⟩ = some (.int .i64 l[i].2.2))
theorem PerL.more {w w' : World} {v : Value} {l : List Per} (h : PerL w v l) (hb : Below w.heap.size w w') : PerL w' v l := by
  obtain ⟨A, c, rfl, h⟩ := h
  refine ⟨A, c, rfl, ?_⟩
  rcases h with h | ⟨b, o, rfl, hlt, hc⟩
  · exact .inl h
  · exact .inr ⟨b, o, rfl, Nat.lt_of_lt_of_le hlt hb.size, fun i hi => ⟨(hb.cell (p := ⟨b, o + i * 3, none⟩) hlt).trans (hc i hi).1, (hb.cell (p := ⟨b, o + i * 3 + 1, none⟩) hlt).trans (hc i hi).2.1, (hb.cell (p := ⟨b, o + i * 3 + 2, none⟩) hlt).trans (hc i hi).2.2⟩⟩
theorem PerL.of_own {e : TypeId} {B : Nat} {w : World} {v : Value} {l : List Per} (h : w.ownsRow B e 3 v l.length (cellsQ l)) : PerL w v l := by
  cases l with
  | nil =>
    rcases h.2 with ⟨rfl, _⟩ | ⟨g, cap, cur, rfl, _⟩
    · exact ⟨none, 0, rfl, .inl rfl⟩
    · exact ⟨_, cap, rfl, .inl rfl⟩
  | cons x r =>
    obtain ⟨g, cap, rfl, _, hlt⟩ := h.form (by simp [cellsQ])
    have hadd : ∀ j, (⟨g, 0, none⟩ : Addr).add j = ⟨g, 0 + j, none⟩ := fun j => by unfold Addr.add; split <;> simp_all
    refine ⟨_, cap, rfl, .inr ⟨g, 0, rfl, hlt, fun i hi => ?_⟩⟩
    obtain ⟨a0, a1, a2⟩ := cellsQ_at (x :: r) i hi
    have h0 := h.cells (g := g) rfl _ _ a0
    have h1 := h.cells (g := g) rfl _ _ a1
    have h2 := h.cells (g := g) rfl _ _ a2
    rw [hadd] at h0 h1 h2
    exact ⟨h0, by rw [Nat.add_assoc]; exact h1, by rw [Nat.add_assoc]; exact h2⟩

/-- a row of numbers of the call's own -/
structure IOwn (e : TypeId) (B : Nat) (w : World) (v : Value) (l : List Int) : Prop where
  own : w.ownsRow B e 1 v l.length (l.map (Value.int .i64))
  base : B ≤ w.heap.size
theorem IOwn.nil {e : TypeId} {B : Nat} {w : World} (hB : B ≤ w.heap.size) : IOwn e B w (.slice none 0 0) [] := ⟨World.ownsRow_nil _ _ _ _, hB⟩
theorem IOwn.more {e : TypeId} {B : Nat} {w w' : World} {v : Value} {l : List Int} (h : IOwn e B w v l) (hb : Below w.heap.size w w') : IOwn e B w' v l := ⟨own_more h.own hb, Nat.le_trans h.base hb.size⟩
theorem IOwn.alloc {e : TypeId} {B : Nat} {w : World} {v : Value} {l : List Int} (h : IOwn e B w v l) (o : Obj) : IOwn e B (w.alloc o) v l := h.more (bel_alloc w o)
/-- a row of periods of the call's own -/
structure POwn (e : TypeId) (B : Nat) (w : World) (v : Value) (l : List Per) : Prop where
  own : w.ownsRow B e 3 v l.length (cellsQ l)
  base : B ≤ w.heap.size
theorem POwn.nil {e : TypeId} {B : Nat} {w : World} (hB : B ≤ w.heap.size) : POwn e B w (.slice none 0 0) [] := ⟨World.ownsRow_nil _ _ _ _, hB⟩
theorem POwn.more {e : TypeId} {B : Nat} {w w' : World} {v : Value} {l : List Per} (h : POwn e B w v l) (hb : Below w.heap.size w w') : POwn e B w' v l := ⟨own_more h.own hb, Nat.le_trans h.base hb.size⟩
theorem POwn.alloc {e : TypeId} {B : Nat} {w : World} {v : Value} {l : List Per} (h : POwn e B w v l) (o : Obj) : POwn e B (w.alloc o) v l := h.more (bel_alloc w o)

theorem info_int : (Tryz.prog.info? 3).map (fun i => (i.zero, i.size, i.bytes)) = some (some (.int .i64 0), 1, 8) := by kernel_rfl
section
end

end Go.Proofs.YtmmpalnalogfnaaGreatDoor.Per

/- Walks of the three loops over the days of a period: Count, Days, Normal. -/
namespace Go.Proofs.YtmmpalnalogfnaaGreatDoor.Per
open Go.RowKit Go.Shelf
set_option linter.unusedSimpArgs false
set_option linter.unusedVariables false
attribute [local go_sem] Oper.semAt_some
attribute [local simp] wide_fn

/-- 'a block holds these cells' speaks of cells alone -/
theorem cells_own {β : Type} (B : Nat) (t : TypeId) (g : β → Array Value) : Own (fun s W => W.heap[B]? = some (.cells (g s) t (0, 0))) := fun s X Y row hs hg hrow =>
  (hg.block B (Array.getElem?_eq_some_iff.1 hs).1 (fun e' => by obtain ⟨o, ho, hc⟩ := hrow B e'.symm; rw [hs] at ho; cases ho; cases hc)).trans hs
theorem boxAt_own {β : Type} (B : Nat) (p : Per) : Own (fun (_ : β) W => BoxAt W B p) := cells_own B perT fun _ => #[.int .i64 p.1, .int .i64 p.2.1, .int .i64 p.2.2]
theorem zip_one (t : Array Value) (n : Nat) (v : Value) : Array.foldl (fun (t : Array Value) (x : Nat × Value) => t.setIfInBounds x.1 x.2) t (#[n].zip #[v]) = t.setIfInBounds n v := by simp
theorem BoxAt.set {W : World} {B B' : Nat} {p : Per} (h : BoxAt W B p) (hne : B ≠ B') (j : Nat) (u : Value) : BoxAt (W.setCell ⟨B', j, none⟩ u) B p := (Below.heap_setCell _ _ _ B hne).trans h

theorem BoxAt.not_row {W : World} {B : Nat} {p : Per} (h : BoxAt W B p) {e : TypeId} (hte : perT ≠ e) {base size k : Nat} {v : Value} {xs : List Value} (hr : W.ownsRow base e size v k xs) : some B ≠ v.ownBlock := by
  rcases hr.2 with ⟨rfl, _⟩ | ⟨g, cap, cur, rfl, _, hgb, _⟩
  · simp [Value.ownBlock]
  · intro e'
    obtain rfl : B = g := by simpa [Value.ownBlock] using e'
    have := (show W.heap[B]? = _ from h).symm.trans hgb
    simp at this
    exact hte this.2

set_option maxRecDepth 100000 in
set_option maxHeartbeats 2000000 in
theorem days_in (p : Per) (w : World) : CallsIn Fence.wide 10 Tryz.prog 128 #[encQ p] w fun e W' => ∃ v, e = .returned v ∧ W'.ownsRow w.heap.size 3 1 v (daysQ p).length ((daysQ p).map (Value.int .i64)) ∧ Below w.heap.size w W' := by
  obtain ⟨i0, hi, hz0, hz1, hz2⟩ := info_parts info_int
  refine callsIn_of_wp_marks Tryz.func128 rfl trivial ?_ rfl
  simp only [Tryz.ntmps128, List.size_toArray, List.length_cons, List.length_nil, Nat.reduceAdd, Nat.reduceSub, Array.replicate_succ, Array.replicate_zero, List.push_toArray, List.append_toArray, List.nil_append, List.cons_append]
  gi_wp2_with (gi_at_call 185; refine (each_any p _).mono ?_; rintro e w' ⟨rfl, rfl⟩)
  obtain ⟨W0, hW0⟩ : ∃ W0, W0 = ((w.alloc (.cells #[.int .i64 p.1, .int .i64 p.2.1, .int .i64 p.2.2] perT)).alloc (.cells #[.slice none 0 0] 168)).alloc (.cells #[.int .i64 p.1, .int .i64 p.2.1, .int .i64 p.2.2] perT) := ⟨_, rfl⟩
  have hsz : W0.heap.size = w.heap.size + 3 := by rw [hW0]; simp
  have bP : BoxAt W0 (w.heap.size + 1 + 1) p := by
    rw [hW0]
    have h := heap_alloc_new ((w.alloc (.cells #[.int .i64 p.1, .int .i64 p.2.1, .int .i64 p.2.2] perT)).alloc (.cells #[.slice none 0 0] 168)) (.cells #[.int .i64 p.1, .int .i64 p.2.1, .int .i64 p.2.2] perT)
    simp only [World.size_alloc] at h
    exact h
  have bN : Boxed W0 (w.heap.size + 1) 168 (.slice none 0 0) := by
    rw [hW0]
    have h := Boxed.new (w.alloc (.cells #[.int .i64 p.1, .int .i64 p.2.1, .int .i64 p.2.2] perT)) 168 (.slice none 0 0)
    simp only [World.size_alloc] at h
    exact h.alloc _
  have hB0 : Below w.heap.size w W0 := by
    rw [hW0]
    exact (((Below.refl _ w).alloc (Nat.le_refl _) _).alloc (by simp) _).alloc (by simp; omega) _
  rw [show ((w.alloc (.cells #[.int .i64 p.1, .int .i64 p.2.1, .int .i64 p.2.2] perT)).alloc (.cells #[.slice none 0 0] 168)).alloc (.cells #[.int .i64 p.1, .int .i64 p.2.1, .int .i64 p.2.2] perT) = W0 from hW0.symm]
  clear hW0
  refine wpIn_rangeFunc_ownG rfl (by omega) (gf := 222) (lb := #[.pointer (some ⟨w.heap.size + 1 + 1, 0, none⟩)]) rfl trivial (enters_of Tryz.func222 (by kernel_rfl) rfl)
    (each_stops (w.heap.size + 1 + 1) w.heap.size p W0 bP) kp_t (kp_b (by omega) (by omega)) (Below.refl _ _) (fun _ => rfl)
    (fun pre W => ((∃ v, Boxed W (w.heap.size + 1) 168 v ∧ W.ownsRow w.heap.size 3 1 v (vals pre).length ((vals pre).map (Value.int .i64)) ∧ True) ∧ BoxAt W (w.heap.size + 1 + 1) p) ∧ Below w.heap.size w W)
    (fun _ _ _ => False)
    (OwnFrom.and (OwnFrom.and (Own.from (holdsRow_own w.heap.size (w.heap.size + 1) 168 3 1 (fun pre : List Dy => (vals pre).length) (fun pre => (vals pre).map (Value.int .i64)) (fun _ _ => True)) _) (Own.from (boxAt_own _ p) _)) (ownFrom_below (Nat.le_refl _) (by omega)))
    (fun _ _ _ _ _ hs _ _ => hs)
    ⟨⟨⟨_, bN, World.ownsRow_nil _ _ _ _, trivial⟩, bP⟩, hB0⟩
    (fun x => { tmps := #[encQ p, .pointer (some ⟨w.heap.size, 0, none⟩), .slice none 0 0, .pointer (some ⟨w.heap.size + 1, 0, none⟩), .int .i64 x.1, encQ p, .func (.func 222) #[] #[.pointer (some ⟨w.heap.size + 1 + 1, 0, none⟩)], .int .i64 x.1, undef, undef, undef, undef, undef], defers := [] }) ?assign ?body ?done ?stop
  case assign =>
    intro l x W K hK
    dsimp only [encD]
    rw [zip_one]
    gi_wp2
    exact hK
  case body =>
    rintro l pre x W ⟨⟨⟨v, hv, hrow, _⟩, hbp⟩, hB⟩ hlt
    have hc := hv.cell
    have hpl : (vals pre).length < 800 := by rw [vals_len]; exact hlt
    have hle : w.heap.size ≤ w.heap.size + 1 := by omega
    gi_wp2_with (gi_at_builtin; refine wpListIn_append_own _ rfl _ _ 168 rfl w.heap.size 3 i0 (.int .i64 0) 1 8 Tryz.underlying168 hi hz0 hz1 hz2 rfl (by decide) _ _ _ rfl (hrow.alloc _) ⟨W.heap.size, 0, none⟩ 1 1 [.int .i64 x.1] rfl rfl (cell_one_new _ _ _) (by simp [Value.oneCell']) (by unfold maxLen; omega) (by omega) (by have := hB.size; simp; omega) ?_; intro v' w1 hown' hgrow _; obtain ⟨g', cap', rfl⟩ := ownsRow_succ hown'; obtain ⟨hv1, hv2, hr2, hk2, hb2⟩ := hv.appended (by decide) hrow hB.size hle hown' hgrow; have hP1 : BoxAt w1 (w.heap.size + 1 + 1) p := (hgrow.block _ (Nat.lt_of_lt_of_le hbp.lt (by simp)) (hbp.not_row (by decide) hrow)).trans ((bel_alloc W _).block _ hbp.lt |>.trans hbp); have hc1 := hv1.cell; have hf1 := hv1.frozen)
    refine ⟨hk2.from _, ⟨hb2, (hP1.set (by simp) 0 _).trans hbp.symm⟩, ⟨⟨_, hv2, ?_, trivial⟩, hP1.set (by simp) 0 _⟩, hB.trans hb2⟩
    rw [vals_snoc]
    simpa using hr2
  case done =>
    rintro D ys W hD hys ⟨⟨⟨v, hv, hrow, _⟩, hbp⟩, hB⟩ hK
    have hc := hv.cell
    gi_wp2
    refine ⟨by simp, .inl ⟨_, _, rfl, run_takeDeferred hK, ?_⟩⟩
    rw [hys] at hrow
    exact ⟨_, results_tmp rfl _ _ _, v, rfl, ownsRow_putObj hrow _ hK rfl, hB.trans (belowK_b (w := w) (Nat.le_refl _) W D _ _ (by omega) hK rfl rfl)⟩
  case stop =>
    rintro D c pre W _ _ h _
    exact h.elim

end Go.Proofs.YtmmpalnalogfnaaGreatDoor.Per

/- Walk of Normal: the loop that gathers a period's canonical form. -/
namespace Go.Proofs.YtmmpalnalogfnaaGreatDoor.Per
open Go.RowKit Go.Shelf
set_option linter.unusedSimpArgs false
set_option linter.unusedVariables false
attribute [local go_sem] Oper.semAt_some
attribute [local simp] wide_fn

theorem set_heap {W : World} {B : Nat} {cs : Array Value} {t : TypeId} (h : W.heap[B]? = some (.cells cs t (0, 0))) (j : Nat) (u : Value) : (W.setCell ⟨B, j, none⟩ u).heap[B]? = some (.cells (cs.setIfInBounds j u) t (0, 0)) := by
  obtain ⟨hlt, hk⟩ := Array.getElem?_eq_some_iff.1 h
  show (W.heap.modify B _)[B]? = _
  rw [Array.getElem?_eq_getElem (by rw [Array.size_modify]; exact hlt), Array.getElem_modify_self, hk]
  rfl
theorem BoxAt.set0 {W : World} {B : Nat} {p : Per} (h : BoxAt W B p) (x : Int) : BoxAt (W.setCell ⟨B, 0, none⟩ (.int .i64 x)) B (x, p.2.1, p.2.2) := set_heap h 0 _
theorem BoxAt.set1 {W : World} {B : Nat} {p : Per} (h : BoxAt W B p) (x : Int) : BoxAt (W.setCell ⟨B, 1, none⟩ (.int .i64 x)) B (p.1, x, p.2.2) := set_heap h 1 _
theorem BoxAt.set2 {W : World} {B : Nat} {p : Per} (h : BoxAt W B p) (x : Int) : BoxAt (W.setCell ⟨B, 2, none⟩ (.int .i64 x)) B (p.1, p.2.1, x) := set_heap h 2 _
theorem BoxAt.frozen {W : World} {B : Nat} {p : Per} (h : BoxAt W B p) (j : Nat) : W.frozen? ⟨B, j, none⟩ = false := by simp [World.frozen?, show W.heap[B]? = _ from h]
theorem keeps_below {B : Nat} {W W' : World} (h : Below W.heap.size W W') : KeepsFrom B W W' := ⟨h.size, fun k o _ hk _ => (h.block k (Array.getElem?_eq_some_iff.1 hk).1).trans hk⟩

end Go.Proofs.YtmmpalnalogfnaaGreatDoor.Per

/- Plain contracts of the loops over an iterator; equal lists; the reference's Days, Count. -/
namespace Go.Proofs.YtmmpalnalogfnaaGreatDoor.Per
open Go.RowKit
set_option linter.unusedSimpArgs false
set_option linter.unusedVariables false

end Go.Proofs.YtmmpalnalogfnaaGreatDoor.Per

/- Walks of the reference's canonical periods: of, Normal, Meet. -/
namespace Go.Proofs.YtmmpalnalogfnaaGreatDoor.Per
open Go.RowKit
set_option linter.unusedSimpArgs false
set_option linter.unusedVariables false

theorem IntL.cells {w : World} {A : Option Addr} {n c : Nat} {l : List Int} (h : IntL w (.slice A n c) l) (hp : 0 < l.length) :
    ∃ b o, A = some ⟨b, o, none⟩ ∧ n = l.length ∧ b < w.heap.size ∧ ∀ i (h : i < l.length), w.cell? ⟨b, o + i, none⟩ = some (.int .i64 l[i]) := by
  obtain ⟨A', c', e, h⟩ := h
  cases e
  rcases h with h | ⟨b, o, h1, h2, h3⟩
  · rw [h] at hp; simp at hp
  · exact ⟨b, o, h1, rfl, h2, h3⟩
/-- a result in a box of its own: what lies behind its three stores -/
theorem BoxAt.result {w W : World} {B : Nat} {p : Per} (h : BoxAt W B p) (q : Per) (hB : w.heap.size ≤ B) (hb : Below w.heap.size w W) :
    let W' := ((W.setCell ⟨B, 0, none⟩ (.int .i64 q.1)).setCell ⟨B, 1, none⟩ (.int .i64 q.2.1)).setCell ⟨B, 2, none⟩ (.int .i64 q.2.2)
    BoxAt W' B q ∧ Below w.heap.size w W' :=
  ⟨((h.set0 q.1).set1 q.2.1).set2 q.2.2, ((hb.setCell (p := ⟨B, 0, none⟩) hB _).setCell (p := ⟨B, 1, none⟩) hB _).setCell (p := ⟨B, 2, none⟩) hB _⟩
end Go.Proofs.YtmmpalnalogfnaaGreatDoor.Per

/- Walks of Meet, beside the reference's. -/
namespace Go.Proofs.YtmmpalnalogfnaaGreatDoor.Per
open Go.RowKit
set_option linter.unusedSimpArgs false
set_option linter.unusedVariables false

end Go.Proofs.YtmmpalnalogfnaaGreatDoor.Per
