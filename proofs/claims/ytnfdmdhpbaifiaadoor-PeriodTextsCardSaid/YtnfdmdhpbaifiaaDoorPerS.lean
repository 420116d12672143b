/- Walks of the reference's Decimal of a weekday, and of its Print. -/
import Derived.Test.YtnfdmdhpbaifiaaDoorPerT
import Derived.Test.YtnfdmdhpbaifiaaDoorPerC
namespace Go.Proofs.YtnfdmdhpbaifiaaDoor
open Go.RowKit
set_option linter.unusedSimpArgs false
set_option linter.unusedVariables false

theorem wkdigit_any (k : Nat) (w : World) (hk : k < 7) : Calls Tryd.prog 22 #[.int .i64 ((k : Int) + 1)] w fun e w' => e = .returned (.string ⟨#[UInt8.ofNat (49 + k)]⟩) ∧ w = w' := by
  have h : k = 0 ∨ k = 1 ∨ k = 2 ∨ k = 3 ∨ k = 4 ∨ k = 5 ∨ k = 6 := by omega
  have HD : ∀ (n : Nat) (W : World), n < 10 → Calls Tryd.prog 39 #[.int .u64 (n : Int)] W fun e w' => e = .returned (.string ⟨#[UInt8.ofNat (48 + n)]⟩) ∧ W = w' := by
    intro n W hn
    have h : n = 0 ∨ n = 1 ∨ n = 2 ∨ n = 3 ∨ n = 4 ∨ n = 5 ∨ n = 6 ∨ n = 7 ∨ n = 8 ∨ n = 9 := by omega
    rcases h with rfl | rfl | rfl | rfl | rfl | rfl | rfl | rfl | rfl | rfl <;>
    · go_enter Tryd.func39, Tryd.ntmps39
      go_wp2
      go_ret
      exact ⟨rfl, rfl⟩
  have H1 := Lib.hid (fun W => HD 1 W (by omega))
  have H2 := Lib.hid (fun W => HD 2 W (by omega))
  have H3 := Lib.hid (fun W => HD 3 W (by omega))
  have H4 := Lib.hid (fun W => HD 4 W (by omega))
  have H5 := Lib.hid (fun W => HD 5 W (by omega))
  have H6 := Lib.hid (fun W => HD 6 W (by omega))
  have H7 := Lib.hid (fun W => HD 7 W (by omega))
  clear HD
  rcases h with rfl | rfl | rfl | rfl | rfl | rfl | rfl
  · go_enter Tryd.func22, Tryd.ntmps22
    go_wp2_with (go_at_call 39; refine (H1.out _).mono ?_; rintro e w' ⟨rfl, rfl⟩)
    go_ret
    exact ⟨rfl, rfl⟩
  · go_enter Tryd.func22, Tryd.ntmps22
    go_wp2_with (go_at_call 39; refine (H2.out _).mono ?_; rintro e w' ⟨rfl, rfl⟩)
    go_ret
    exact ⟨rfl, rfl⟩
  · go_enter Tryd.func22, Tryd.ntmps22
    go_wp2_with (go_at_call 39; refine (H3.out _).mono ?_; rintro e w' ⟨rfl, rfl⟩)
    go_ret
    exact ⟨rfl, rfl⟩
  · go_enter Tryd.func22, Tryd.ntmps22
    go_wp2_with (go_at_call 39; refine (H4.out _).mono ?_; rintro e w' ⟨rfl, rfl⟩)
    go_ret
    exact ⟨rfl, rfl⟩
  · go_enter Tryd.func22, Tryd.ntmps22
    go_wp2_with (go_at_call 39; refine (H5.out _).mono ?_; rintro e w' ⟨rfl, rfl⟩)
    go_ret
    exact ⟨rfl, rfl⟩
  · go_enter Tryd.func22, Tryd.ntmps22
    go_wp2_with (go_at_call 39; refine (H6.out _).mono ?_; rintro e w' ⟨rfl, rfl⟩)
    go_ret
    exact ⟨rfl, rfl⟩
  · go_enter Tryd.func22, Tryd.ntmps22
    go_wp2_with (go_at_call 39; refine (H7.out _).mono ?_; rintro e w' ⟨rfl, rfl⟩)
    go_ret
    exact ⟨rfl, rfl⟩

theorem half_pow (d : Int) (k : Nat) : d / ((2 ^ k : Nat) : Int) / 2 = d / ((2 ^ (k + 1) : Nat) : Int) := by
  rw [Nat.pow_succ, Int.natCast_mul, Int.ediv_ediv_of_nonneg (Int.natCast_nonneg _)]
  rfl
theorem rpr_text (f t d : Int) (h : okQ (f, t, d) = true) : perL (f, t, d) = printL f ++ [47] ++ printL t ++ [47] ++ digL d := by rw [perL, if_pos h]
set_option maxRecDepth 100000 in
set_option maxHeartbeats 2000000 in
theorem rpprint_any (f t d : Int) (w : World) : Calls Tryd.prog 8 #[encQ (f, t, d)] w fun e w' => e = .returned (.string ⟨(perL (f, t, d)).toArray⟩) ∧ Below w.heap.size w w' := by
  have hb := bel_alloc w (.cells #[.int .i64 f, .int .i64 t, .int .i64 d] 23)
  have CV := Lib.hid (fun W => rcheck_any f t d W)
  cases h : okQ (f, t, d)
  · have HR : Hid (perL (f, t, d) = []) := Lib.hid (by simp [perL, h])
    have e1 : (errQ (f, t, d) != 0) = true := by rw [bne, errQ_two h]; rfl
    clear h
    go_enter Tryd.func8, Tryd.ntmps8
    go_wp2_with (go_at_call 9; refine (CV.out _).mono ?_; rintro e w1 ⟨rfl, hb1⟩)
    go_ret
    exact ⟨by rw [HR.out]; rfl, hb.trans (hb1.mono hb.size)⟩
  · have hq := okQ_yes h
    have HR : Hid (perL (f, t, d) = printL f ++ [47] ++ printL t ++ [47] ++ digL d) := Lib.hid (by rw [perL, if_pos h])
    have e1 : (errQ (f, t, d) != 0) = false := by rw [errQ_ok h]; rfl
    have d0 : 0 ≤ d := by have := hq.2.2.2.2.1; simp at this; omega
    have d1 : d ≤ 127 := hq.2.2.2.2.2
    have hB0 : Box3 w w.heap.size (f, t, d) (w.alloc (.cells #[.int .i64 f, .int .i64 t, .int .i64 d] 23)) := Box3.new w (f, t, d) _
    have C1 := Lib.hid (Box3.call (w := w) (B := w.heap.size) (p := (f, t, d)) (fun W => rprint_any f W))
    have C2 := Lib.hid (Box3.call (w := w) (B := w.heap.size) (p := (f, t, d)) (fun W => rprint_any t W))
    have f0 : ∀ x : Wd (Box3 w w.heap.size (f, t, d)), x.w.cell? ⟨w.heap.size, 0, none⟩ = some (.int .i64 f) := fun x => x.ok.1
    have f1 : ∀ x : Wd (Box3 w w.heap.size (f, t, d)), x.w.cell? ⟨w.heap.size, 1, none⟩ = some (.int .i64 t) := fun x => x.ok.2.1
    have f2 : ∀ x : Wd (Box3 w w.heap.size (f, t, d)), x.w.cell? ⟨w.heap.size, 2, none⟩ = some (.int .i64 d) := fun x => x.ok.2.2.1
    clear h hq
    obtain ⟨s1, hs1⟩ : ∃ s : ByteArray, s = ⟨(printL f).toArray⟩ := ⟨_, rfl⟩
    obtain ⟨s2, hs2⟩ : ∃ s : ByteArray, s = ⟨(printL t).toArray⟩ := ⟨_, rfl⟩
    rw [← hs1] at C1
    rw [← hs2] at C2
    have HS : Hid (∀ D : List UInt8, (((s1 ++ ⟨#[47]⟩) ++ s2) ++ ⟨#[47]⟩) ++ (⟨D.toArray⟩ : ByteArray) = (⟨(printL f ++ [47] ++ printL t ++ [47] ++ D).toArray⟩ : ByteArray)) := Lib.hid (by
      intro D
      rw [hs1, hs2]; simp only [← mk_app])
    have z1 : s1.size ≤ 10 := by rw [hs1]; exact print_len10 f
    have z2 : s2.size ≤ 10 := by rw [hs2]; exact print_len10 t
    clear hs1 hs2
    have A1 := fun W => run_string_add_sum (P := Tryd.prog) (w := W) s1 (⟨#[47]⟩ : ByteArray) (by show s1.size + 1 ≤ _; omega)
    have A2 := fun W => run_string_add_sum (P := Tryd.prog) (w := W) (s1 ++ ⟨#[47]⟩) s2 (by rw [ByteArray.size_append]; show s1.size + 1 + s2.size ≤ _; omega)
    have A3 := fun W => run_string_add_sum (P := Tryd.prog) (w := W) ((s1 ++ ⟨#[47]⟩) ++ s2) (⟨#[47]⟩ : ByteArray) (by rw [ByteArray.size_append, ByteArray.size_append]; show s1.size + 1 + s2.size + 1 ≤ _; omega)
    go_enter Tryd.func8, Tryd.ntmps8
    go_wp2_with (go_at_call 9; refine (CV.out _).mono ?_; rintro e w1 ⟨rfl, hb1⟩)
    have hB1 := (hB0.more hb1).more (Below.refl _ _).drew
    have hNe : Nonempty (Wd (Box3 w w.heap.size (f, t, d))) := ⟨⟨_, hB1⟩⟩
    refine quietS (S := Box3 w w.heap.size (f, t, d)) (by kernel_rfl) (by kernel_rfl) (hB1) ?_
    repeat (first | go_big_quiet_skip | (go_big_quiet_want; go_big_quiet_op; first | go_big_quiet_on | go_big_quiet_call ((first | (go_at_call 21; first | (with_reducible exact quiet_S (C1.out _ (Wd.ok _))) | (with_reducible exact quiet_S (C2.out _ (Wd.ok _))))))))
    refine wpQuiet_nil ?_
    rintro W ⟨⟨_, hW⟩, rfl⟩
    have g2 := hW.2.2.1
    have z4 : ((((s1 ++ ⟨#[47]⟩) ++ s2) ++ ⟨#[47]⟩) : ByteArray).size ≤ 22 := by
      rw [ByteArray.size_append, ByteArray.size_append, ByteArray.size_append]; show s1.size + 1 + s2.size + 1 ≤ _; omega
    clear A1 A2 A3 f0 f1 f2 C1 C2 CV e1 z1 z2 hB0 hB1
    generalize (((s1 ++ ⟨#[47]⟩) ++ s2) ++ ⟨#[47]⟩ : ByteArray) = X at *
    have hb1W : Below w.heap.size w W := hW.2.2.2
    go_wp2
    go_loopw [3, 4, 5] (fun vs vn vi wr => ∃ k : Nat, k ≤ 7 ∧ vi = .int .i64 ((k : Int) + 1) ∧ (∃ y : Int, vn = .int .i64 y ∧ 0 ≤ y ∧ y ≤ 127 ∧ Hid (y = d / ((2 ^ k : Nat) : Int))) ∧ vs = .string (X ++ ⟨(digTo d.toNat k).toArray⟩) ∧ wr = W) (fun _ _ vi _ => 8 - (intOf vi).toNat)
    case atStart => exact ⟨0, by omega, rfl, ⟨d, rfl, d0, d1, Lib.hid (by simp)⟩, by rw [show (⟨(digTo d.toNat 0).toArray⟩ : ByteArray) = ByteArray.empty from rfl, ByteArray.append_empty], rfl⟩
    case round =>
      obtain ⟨k, hk, rfl, ⟨y, rfl, y0, y1, HY⟩, rfl, rfl⟩ := hrel
      by_cases hlt : k < 7
      · have i1 : (k : Int) + 1 ≤ 7 := by omega
        have hl := digTo_len d.toNat k
        have HB : Hid ((y % 2 == 1) = d.toNat.testBit k) := Lib.hid (by rw [← tmod_pos _ _ y0, HY.out]; exact quo_bit d k d0)
        have HY2 : Hid (y / 2 = d / ((2 ^ (k + 1) : Nat) : Int)) := Lib.hid (by rw [HY.out]; exact half_pow d k)
        have q1 : y.tdiv 2 = y / 2 := Int.tdiv_eq_ediv_of_nonneg y0
        cases hw : d.toNat.testBit k
        · have t1 : (y % 2 == 1) = false := by rw [HB.out, hw]
          have HN := Lib.hid (digTo_miss d.toNat k hw)
          clear hw HB HY
          go_wp2
          go_roundw
          case rel => exact ⟨k + 1, by omega, by go_num, ⟨y / 2, by go_num, by omega, by omega, HY2⟩, by rw [HN.out], by first | rfl | trivial⟩
          case measure => simp [intOf]; omega
        · have t1 : (y % 2 == 1) = true := by rw [HB.out, hw]
          have HN : Hid ((X ++ ⟨(digTo d.toNat k).toArray⟩ : ByteArray) ++ (⟨#[UInt8.ofNat (49 + k)]⟩ : ByteArray) = X ++ ⟨(digTo d.toNat (k + 1)).toArray⟩) := Lib.hid (by rw [digTo_hit d.toNat k hw, ByteArray.append_assoc, ← mk_app])
          have CD := Lib.hid (fun W => wkdigit_any k W hlt)
          have zz : (X ++ ⟨(digTo d.toNat k).toArray⟩ : ByteArray).size ≤ 100 := by
            rw [ByteArray.size_append]; show X.size + (digTo d.toNat k).length ≤ _; omega
          clear hw HB HY
          obtain ⟨D, hD⟩ : ∃ D : ByteArray, D = ⟨#[UInt8.ofNat (49 + k)]⟩ := ⟨_, rfl⟩
          rw [← hD] at HN CD
          have zD : D.size = 1 := by rw [hD]; rfl
          clear hD
          generalize (X ++ ⟨(digTo d.toNat k).toArray⟩ : ByteArray) = Z at *
          have A1 := fun W => run_string_add_sum (P := Tryd.prog) (w := W) Z D (by omega)
          go_wp2_with (go_at_call 22; refine (CD.out _).mono ?_; rintro e w' ⟨rfl, rfl⟩)
          go_roundw
          case rel => exact ⟨k + 1, by omega, by go_num, ⟨y / 2, by go_num, by omega, by omega, HY2⟩, by rw [HN.out], by first | rfl | trivial⟩
          case measure => simp [intOf]; omega
      · have e : k = 7 := by omega
        subst e
        go_wp2
        go_ret
        exact ⟨by rw [HR.out, ← HS.out]; rfl, hb1W⟩

end Go.Proofs.YtnfdmdhpbaifiaaDoor
