/- Walks of isValid, the weekday's bit, Has, between, beside the reference's. -/
import Derived.Test.YtnfdmdhpbaifiaaDoorPerA
import Derived.Deep.RegionHeld3
namespace Go.Proofs.YtnfdmdhpbaifiaaDoor
open Go.RowKit
set_option linter.unusedSimpArgs false
set_option linter.unusedVariables false

theorem bel_acc {f : Nat} {args : Array Value} {w w1 : World} {R : Ending → Prop} (h : Calls Tryd.prog f args w1 fun e w' => R e ∧ Below w1.heap.size w1 w') (hb : Below w.heap.size w w1) :
    Calls Tryd.prog f args w1 fun e w' => R e ∧ Below w.heap.size w w' := h.mono (by rintro e w' ⟨hr, h⟩; exact ⟨hr, hb.trans (h.mono hb.size)⟩)

set_option maxHeartbeats 1000000 in
theorem isValid_any (f t d : Int) (w : World) : Calls Tryd.prog 18 #[encQ (f, t, d)] w fun e w' => e = .returned (.bool (okQ (f, t, d))) ∧ Below w.heap.size w w' := by
  have hb := bel_alloc w (.cells #[.int .i64 f, .int .i64 t, .int .i64 d] 23)
  have CC := Lib.hid (fun w1 hb => bel_acc (w := w) (check_any f t d w1) hb)
  cases h : okQ (f, t, d)
  · have he := errQ_two h
    clear h
    generalize errQ (f, t, d) = z at *
    go_enter Tryd.func18, Tryd.ntmps18
    go_wp2_with (go_at_call 15; refine (CC.out _ hb).mono ?_; rintro e w' ⟨rfl, hb⟩)
    go_ret
    exact ⟨ret_bool rfl, hb⟩
  · have he := errQ_ok h
    clear h
    rw [he] at CC
    clear he
    go_enter Tryd.func18, Tryd.ntmps18
    go_wp2_with (go_at_call 15; refine (CC.out _ hb).mono ?_; rintro e w' ⟨rfl, hb⟩)
    go_ret
    exact ⟨ret_bool rfl, hb⟩

theorem wraps7 (n : Int) (h₀ : 0 ≤ n) (h₁ : n < 2 ^ 7) : IntKind.i64.wrap n = n := by rw [IntKind.wrap_i64]; omega
theorem and7 (a b : Nat) (ha : a < 128) (hb : b < 128) : bits .and .i64 (a : Int) (b : Int) = ((a &&& b : Nat) : Int) := (bits_nat .i64 7 (by decide) wraps7 a b ha hb).1
theorem or7 (a b : Nat) (ha : a < 128) (hb : b < 128) : bits .or .i64 (a : Int) (b : Int) = ((a ||| b : Nat) : Int) := (bits_nat .i64 7 (by decide) wraps7 a b ha hb).2
theorem one7 (x : Int) (h0 : 0 ≤ x) (h1 : x < 128) : bits .and .i64 x 1 = x % 2 := bits_mask .i64 7 (by decide) wraps7 1 (by decide) x h0 h1
theorem not7 (a b : Nat) (ha : a < 128) (hb : b < 128) : bits .andNot .i64 (a : Int) (b : Int) = ((a &&& (127 - b) : Nat) : Int) := by
  show IntKind.i64.wrap ((BitVec.ofInt 64 (a : Int) &&& ~~~BitVec.ofInt 64 (b : Int)).toNat : Int) = _
  rw [BitVec.toNat_and, BitVec.toNat_not, BitVec.ofInt_natCast, BitVec.ofInt_natCast, BitVec.toNat_ofNat, BitVec.toNat_ofNat, Nat.mod_eq_of_lt (by omega), Nat.mod_eq_of_lt (by omega)]
  have e : a &&& (2 ^ 64 - 1 - b) = a &&& (127 - b) := by
    apply Nat.eq_of_testBit_eq
    intro i
    rw [Nat.testBit_and, Nat.testBit_and]
    by_cases hi : i < 7
    · congr 1
      rw [not_bit b hb i hi, show 2 ^ 64 - 1 - b = 2 ^ 64 - (b + 1) by omega, Nat.testBit_two_pow_sub_succ (by omega)]
      simp; omega
    · have : a.testBit i = false := Nat.testBit_lt_two_pow (Nat.lt_of_lt_of_le ha (by have := Nat.pow_le_pow_right (n := 2) (by omega) (show 7 ≤ i by omega); omega))
      rw [this]; rfl
  rw [e]
  refine wraps7 _ (by omega) ?_
  have := Nat.and_lt_two_pow a (y := 127 - b) (n := 7) (by omega)
  omega
theorem shr_bit (d : Int) (k : Nat) (h0 : 0 ≤ d) : d / 2 ^ k % 2 = if d.toNat.testBit k then 1 else 0 := by
  obtain ⟨n, rfl⟩ := Int.eq_ofNat_of_zero_le h0
  rw [Int.toNat_natCast, Nat.testBit_eq_decide_div_mod_eq]
  have e : ((n : Int) / 2 ^ k % 2) = ((n / 2 ^ k % 2 : Nat) : Int) := by simp
  rw [e]
  by_cases h : n / 2 ^ k % 2 = 1
  · simp [h]
  · have : n / 2 ^ k % 2 = 0 := by omega
    simp [this]
set_option maxHeartbeats 1000000 in
theorem hasWd_any (f t d : Int) (k : Nat) (w : World) (h0 : 0 ≤ d) (h1 : d ≤ 127) (hk : k < 7) : Calls Tryd.prog 36 #[encQ (f, t, d), .int .i64 k] w fun e w' => e = .returned (.bool (d.toNat.testBit k)) ∧ Below w.heap.size w w' := by
  have hm : min k 64 = k := by omega
  have HB : Hid ((bits BinOp.and IntKind.i64 (d / 2 ^ k) 1 == 1) = d.toNat.testBit k) := Lib.hid (by
    have q0 : 0 ≤ d / 2 ^ k := Int.ediv_nonneg h0 (Int.pow_nonneg (by omega))
    have q1 : d / 2 ^ k ≤ d := Int.ediv_le_self _ h0
    rw [one7 _ q0 (by omega), shr_bit d k h0]
    cases d.toNat.testBit k <;> rfl)
  go_enter Tryd.func36, Tryd.ntmps36
  go_wp2
  go_ret
  exact ⟨ret_bool HB.out, bel_alloc _ _⟩

theorem wk_val (n : Int) : weekP n = ((wkN n : Nat) : Int) := by rw [wkN_int]; rfl
theorem wk_any (n : Int) (w : World) (h0 : -9223372036854775808 ≤ n) (h1 : n ≤ 9223372036854775807) : Calls Tryd.prog 24 #[.int .i64 n] w fun e w' => e = .returned (.int .i64 (wkN n : Nat)) ∧ Below w.heap.size w w' := by
  rw [← wk_val]; exact weekday_any n w h0 h1
theorem pow_step (k : Nat) (h : k < 7) : ((2 ^ k : Nat) : Int) ≤ 64 ∧ 1 ≤ ((2 ^ k : Nat) : Int) := by
  have h1 := Nat.pow_le_pow_right (n := 2) (by omega) (show k ≤ 6 by omega)
  have h2 := Nat.two_pow_pos k
  omega
set_option maxHeartbeats 1000000 in
theorem between_any (f t d x y : Int) (w : World) : Calls Tryd.prog 26 #[encQ (f, t, d), .int .i64 x, .int .i64 y] w fun e w' => e = .returned (encQ (btw (f, t, d) x y)) ∧ Below w.heap.size w w' := by
  go_enter Tryd.func26, Tryd.ntmps26
  go_wp2
  all_goals
    refine bodyPost_ret (v := encQ (btw (f, t, d) x y)) ?_ rfl ⟨rfl, ?_⟩
    · simp [results, Tryd.results26, go_sem]
      refine ⟨?_, ?_, rfl⟩
      · show _ = ite (x < f) f x
        split <;> omega
      · show _ = ite (t < y) t y
        split <;> omega
    · exact (bel_alloc _ _).alloc (by simp) _

/-- a period that lies in a box, in a world that has only grown since w -/
def Box3 (w : World) (B : Nat) (p : Per) (W : World) : Prop := W.cell? ⟨B, 0, none⟩ = some (.int .i64 p.1) ∧ W.cell? ⟨B, 1, none⟩ = some (.int .i64 p.2.1) ∧ W.cell? ⟨B, 2, none⟩ = some (.int .i64 p.2.2) ∧ Below w.heap.size w W
theorem Box3.new (w : World) (p : Per) (t : TypeId) : Box3 w w.heap.size p (w.alloc (.cells #[.int .i64 p.1, .int .i64 p.2.1, .int .i64 p.2.2] t)) := by
  have h := heap_alloc_new w (.cells #[.int .i64 p.1, .int .i64 p.2.1, .int .i64 p.2.2] t)
  refine ⟨?_, ?_, ?_, bel_alloc _ _⟩
  · exact cell_of_row _ _ 0 _ _ (0, 0) h
  · exact cell_of_row _ _ 1 _ _ (0, 0) h
  · exact cell_of_row _ _ 2 _ _ (0, 0) h
theorem Box3.more {w : World} {B : Nat} {p : Per} {W W' : World} (h : Box3 w B p W) (hb : Below W.heap.size W W') : Box3 w B p W' :=
  ⟨(hb.cell (p := ⟨B, 0, none⟩) (World.block_lt_of_cell? W _ h.1)).trans h.1, (hb.cell (p := ⟨B, 1, none⟩) (World.block_lt_of_cell? W _ h.2.1)).trans h.2.1, (hb.cell (p := ⟨B, 2, none⟩) (World.block_lt_of_cell? W _ h.2.2.1)).trans h.2.2.1, h.2.2.2.trans (hb.mono h.2.2.2.size)⟩
theorem Box3.call {f : Nat} {args : Array Value} {w : World} {B : Nat} {p : Per} {v : Value} (h : ∀ W, Calls Tryd.prog f args W fun e w' => e = .returned v ∧ Below W.heap.size W w') (W : World) (hb : Box3 w B p W) :
    Calls Tryd.prog f args W fun e w' => e = .returned v ∧ Box3 w B p w' := (h W).mono (by rintro e w' ⟨he, h⟩; exact ⟨he, hb.more h⟩)
theorem bel_self (W : World) (n : Nat) : Below W.heap.size W (W.drewN n) := below_drewN (Below.refl _ _) n

/-! ### regions that draw their order and whose calls make memory: one walk in the class of the worlds of which S holds -/
structure Wd (S : World → Prop) where
  w : World
  ok : S w
theorem quietS {P : Program} {S : World → Prop} {id : Nat} {Q : Exit → Act → World → Prop} {a : Act} {w : World} {l : List Oper} (hm : P.follows .mixedOrders = true) (hB : Region.lexB .any l.toArray = true) (hC : S w.drew)
    (h : wpQuiet P l.toArray (fun w' => ∃ x : Wd S, w' = x.w) (fun a' => ∀ w', (∃ x : Wd S, w' = x.w) → Q .normal a' w') l a) : (Code.region id l.toArray true).wp P Q a w :=
  wp_region_quiet (C := fun w' => ∃ x : Wd S, w' = x.w) hm hB ⟨⟨_, hC⟩, rfl⟩ (by simpa using h)
theorem quiet_S {P : Program} {f : FuncId} {args : Array Value} {W : World} {S : World → Prop} {v : Value} (h : Calls P f args W fun e w' => e = .returned v ∧ S w') :
    Calls P f args W fun e w'' => e = .returned v ∧ ∃ x : Wd S, w'' = x.w := h.mono (by rintro e w' ⟨he, hs⟩; exact ⟨he, ⟨w', hs⟩, rfl⟩)

end Go.Proofs.YtnfdmdhpbaifiaaDoor
