/- Walks of far and of the two laws. -/
import Derived.Test.YtbkpienklhmgbaaZonG
namespace Go.Proofs.Ytbkpienklhmgbaa
open Go.RowKit Go.Shelf
set_option linter.unusedSimpArgs false
set_option linter.unusedVariables false

def farB (o : Int) (l : Shs) (n : Int) : Bool := decide (n < -549755813888) || decide (549755813888 < n) || decide (40 < l.length) || !(errZ o l == 0)
set_option maxRecDepth 100000 in
set_option maxHeartbeats 2000000 in
theorem far_any (o : Int) (A : Option Addr) (c : Nat) (l : Shs) (n : Int) (w : World) (hl : l.length < 9223372036854775808) (hL : ShL w A l) (hr : ∀ k, k < l.length → -9223372036854775808 ≤ shA l k ∧ shA l k ≤ 9223372036854775807) :
    Calls Try.prog 8 #[encZ o A l.length c, .int .i64 n] w fun e w' => e = .returned (.bool (farB o l n)) ∧ Below w.heap.size w w' := by
  have hb0 := bel_alloc w (.cells #[.int .i64 o, .slice A l.length c] zoneT)
  have CR := Lib.hid (rcheck_any o A c l (w.alloc (.cells #[.int .i64 o, .slice A l.length c] zoneT)) hl (hL.more hb0) hr)
  clear hL hr
  by_cases h1 : n < -549755813888
  · have HR : Hid (farB o l n = true) := Lib.hid (by simp [farB, h1])
    go_enter Try.func8, Try.ntmps8
    go_wp2
    go_ret
    exact ⟨by rw [HR.out]; rfl, hb0⟩
  by_cases h2 : 549755813888 < n
  · have HR : Hid (farB o l n = true) := Lib.hid (by simp [farB, h2])
    go_enter Try.func8, Try.ntmps8
    go_wp2
    go_ret
    exact ⟨by rw [HR.out]; rfl, hb0⟩
  by_cases h3 : 40 < l.length
  · have HR : Hid (farB o l n = true) := Lib.hid (by simp [farB, h3])
    have i3 : (40 : Int) < (l.length : Int) := by omega
    clear h3
    go_enter Try.func8, Try.ntmps8
    go_wp2
    go_ret
    exact ⟨by rw [HR.out]; rfl, hb0⟩
  have i3 : ¬ (40 : Int) < (l.length : Int) := by omega
  have HR : Hid (farB o l n = !(errZ o l == 0)) := Lib.hid (by simp [farB, h1, h2, h3])
  clear h3
  generalize errZ o l = z at *
  go_enter Try.func8, Try.ntmps8
  go_wp2_with (go_at_call 6; refine CR.out.mono ?_; rintro e w1 ⟨rfl, hb1⟩)
  go_ret
  exact ⟨by rw [HR.out]; rfl, hb0.trans (hb1.mono hb0.size)⟩

set_option maxRecDepth 100000 in
set_option maxHeartbeats 2000000 in
theorem zoneChecks_walk (o : Int) (A : Option Addr) (c : Nat) (l : Shs) (w : World) (hl : l.length < 9223372036854775808) (hL : ShL w A l) (hr : ∀ k, k < l.length → -9223372036854775808 ≤ shA l k ∧ shA l k ≤ 9223372036854775807) :
    Calls Try.prog 3 #[encZ o A l.length c] w fun e w' => e = .returned (.bool true) ∧ Below w.heap.size w w' := by
  have hb0 := bel_alloc w (.cells #[.int .i64 o, .slice A l.length c] zoneT)
  have z0 := SW.cell (cells_new w #[.int .i64 o, .slice A l.length c] zoneT 0)
  have z1 := SW.cell (cells_new w #[.int .i64 o, .slice A l.length c] zoneT 1)
  have K1 := Lib.hid (SW.call (w5 := w.alloc (.cells #[.int .i64 o, .slice A l.length c] zoneT)) (fun W hW => check_any o A c l W hl ((hL.more hb0).more hW) hr))
  have K2 := Lib.hid (SW.call (w5 := w.alloc (.cells #[.int .i64 o, .slice A l.length c] zoneT)) (fun W hW => rcheck_any o A c l W hl ((hL.more hb0).more hW) hr))
  have K3 := Lib.hid (SW.call (w5 := w.alloc (.cells #[.int .i64 o, .slice A l.length c] zoneT)) (fun W hW => knows_any W))
  clear hL hr
  generalize errZ o l = z at *
  by_cases h : 2000 < l.length
  · have d1 : decide ((2000 : Int) < (l.length : Int)) = true := decide_eq_true (by omega)
    clear h
    go_enter Try.func3, Try.ntmps3
    go_wp2
    have hNe : Nonempty (Wd (SW (w.alloc (.cells #[.int .i64 o, .slice A l.length c] zoneT)))) := ⟨⟨_, SW.drew _⟩⟩
    refine quietS (S := SW (w.alloc (.cells #[.int .i64 o, .slice A l.length c] zoneT))) (by kernel_rfl) (by kernel_rfl) (SW.drew _) ?_
    repeat (first | go_big_quiet_skip | (go_big_quiet_want; go_big_quiet_op; first | go_big_quiet_on | go_big_quiet_call ((first | (go_at_call 5; (with_reducible exact quiet_S (K1.out _ (Wd.ok _)))) | (go_at_call 6; (with_reducible exact quiet_S (K2.out _ (Wd.ok _)))) | (go_at_call 7; (with_reducible exact quiet_S (K3.out _ (Wd.ok _))))))))
    refine wpQuiet_nil ?_
    rintro W ⟨⟨_, hW⟩, rfl⟩
    go_wp2
    go_ret
    exact ⟨rfl, hb0.trans (hW.mono hb0.size)⟩
  · have d1 : decide ((2000 : Int) < (l.length : Int)) = false := decide_eq_false (by omega)
    clear h
    go_enter Try.func3, Try.ntmps3
    go_wp2
    have hNe : Nonempty (Wd (SW (w.alloc (.cells #[.int .i64 o, .slice A l.length c] zoneT)))) := ⟨⟨_, SW.drew _⟩⟩
    refine quietS (S := SW (w.alloc (.cells #[.int .i64 o, .slice A l.length c] zoneT))) (by kernel_rfl) (by kernel_rfl) (SW.drew _) ?_
    repeat (first | go_big_quiet_skip | (go_big_quiet_want; go_big_quiet_op; first | go_big_quiet_on | go_big_quiet_call ((first | (go_at_call 5; (with_reducible exact quiet_S (K1.out _ (Wd.ok _)))) | (go_at_call 6; (with_reducible exact quiet_S (K2.out _ (Wd.ok _)))) | (go_at_call 7; (with_reducible exact quiet_S (K3.out _ (Wd.ok _))))))))
    refine wpQuiet_nil ?_
    rintro W ⟨⟨_, hW⟩, rfl⟩
    go_wp2
    go_ret
    exact ⟨rfl, hb0.trans (hW.mono hb0.size)⟩

theorem farB_no {o : Int} {l : Shs} {n : Int} (h : farB o l n = false) : (-549755813888 ≤ n ∧ n ≤ 549755813888) ∧ errZ o l = 0 := by
  simp only [farB, Bool.or_eq_false_iff, decide_eq_false_iff_not, Bool.not_eq_false', beq_iff_eq] at h
  omega
set_option maxRecDepth 100000 in
set_option maxHeartbeats 4000000 in
theorem zoneTells_walk (o : Int) (A : Option Addr) (c : Nat) (l : Shs) (u x : Int) (w : World) (hl : l.length < 9223372036854775808) (hL : ShL w A l) (hr : ∀ k, k < l.length → -9223372036854775808 ≤ shA l k ∧ shA l k ≤ 9223372036854775807) :
    Calls Try.prog 4 #[encZ o A l.length c, .int .i64 u, .int .i64 x] w fun e w' => e = .returned (.bool true) ∧ Below w.heap.size w w' := by
  have hb0 := bel_alloc w (.cells #[.int .i64 o, .slice A l.length c] zoneT)
  have z0 := bel_get (cells_new w #[.int .i64 o, .slice A l.length c] zoneT 0)
  have z1 := bel_get (cells_new w #[.int .i64 o, .slice A l.length c] zoneT 1)
  have F1 := Lib.hid (SW.call (w5 := w.alloc (.cells #[.int .i64 o, .slice A l.length c] zoneT)) (fun W hW => far_any o A c l u W hl ((hL.more hb0).more hW) hr))
  have F2 := Lib.hid (SW.call (w5 := w.alloc (.cells #[.int .i64 o, .slice A l.length c] zoneT)) (fun W hW => far_any o A c l x W hl ((hL.more hb0).more hW) hr))
  have K0 := Lib.hid (SW.call (w5 := w.alloc (.cells #[.int .i64 o, .slice A l.length c] zoneT)) (fun W hW => knows_any W))
  have hS : SW (w.alloc (.cells #[.int .i64 o, .slice A l.length c] zoneT)) (w.alloc (.cells #[.int .i64 o, .slice A l.length c] zoneT)) := Below.refl _ _
  cases h1 : farB o l u
  case true =>
    rw [h1] at F1
    clear h1 hL hr F2
    go_enter Try.func4, Try.ntmps4
    go_wp2_with (first
      | (go_at_call 8; with_reducible refine (F1.out _ hS).mono ?_)
      | (go_at_call 7; with_reducible refine (K0.out _ hS).mono ?_)
      | (with_reducible rintro e w' ⟨rfl, hS⟩; have x0 := z0 _ hS; have x1 := z1 _ hS))
    go_ret
    exact ⟨rfl, hb0.trans (Below.mono hS hb0.size)⟩
  cases h2 : farB o l x
  case true =>
    rw [h1] at F1
    rw [h2] at F2
    clear h1 h2 hL hr
    go_enter Try.func4, Try.ntmps4
    go_wp2_with (first
      | (go_at_call 8; first | (with_reducible refine (F1.out _ hS).mono ?_) | (with_reducible refine (F2.out _ hS).mono ?_))
      | (go_at_call 7; with_reducible refine (K0.out _ hS).mono ?_)
      | (with_reducible rintro e w' ⟨rfl, hS⟩; have x0 := z0 _ hS; have x1 := z1 _ hS))
    go_ret
    exact ⟨rfl, hb0.trans (Below.mono hS hb0.size)⟩
  have ok := errZ_ok (farB_no h1).2
  have hu := (farB_no h1).1
  have hx := (farB_no h2).1
  have hu2 : -1099511627776 ≤ u ∧ u ≤ 1099511627776 := by omega
  have hx2 : -1099511627776 ≤ x ∧ x ≤ 1099511627776 := by omega
  have K1 := Lib.hid (SW.call (w5 := w.alloc (.cells #[.int .i64 o, .slice A l.length c] zoneT)) (fun W hW => offset_any o A c l u W ok ((hL.more hb0).more hW)))
  have K2 := Lib.hid (SW.call (w5 := w.alloc (.cells #[.int .i64 o, .slice A l.length c] zoneT)) (fun W hW => roff_is ok u ▸ roffset_any o A c l u W ok.len ((hL.more hb0).more hW)))
  have K3 := Lib.hid (SW.call (w5 := w.alloc (.cells #[.int .i64 o, .slice A l.length c] zoneT)) (fun W hW => local_any o A c l u W ok ((hL.more hb0).more hW) hu2))
  have K4 := Lib.hid (SW.call (w5 := w.alloc (.cells #[.int .i64 o, .slice A l.length c] zoneT)) (fun W hW => rlocal_any o A c l u W ok ((hL.more hb0).more hW) hu2))
  have K5 := Lib.hid (SW.call (w5 := w.alloc (.cells #[.int .i64 o, .slice A l.length c] zoneT)) (fun W hW => utc_any o A c l x W ok ((hL.more hb0).more hW) hx2))
  have K6 := Lib.hid (SW.call (w5 := w.alloc (.cells #[.int .i64 o, .slice A l.length c] zoneT)) (fun W hW => rutc_any o A c l x W ok ((hL.more hb0).more hW) hx2))
  have K7 := Lib.hid (SW.call (w5 := w.alloc (.cells #[.int .i64 o, .slice A l.length c] zoneT)) (fun W hW => exists_any o A c l x W ok ((hL.more hb0).more hW) hx2))
  have K8 := Lib.hid (SW.call (w5 := w.alloc (.cells #[.int .i64 o, .slice A l.length c] zoneT)) (fun W hW => rexists_any o A c l x W ok ((hL.more hb0).more hW) hx2))
  have K9 := Lib.hid (SW.call (w5 := w.alloc (.cells #[.int .i64 o, .slice A l.length c] zoneT)) (fun W hW => twice_any o A c l x W ok ((hL.more hb0).more hW) hx2))
  have K10 := Lib.hid (SW.call (w5 := w.alloc (.cells #[.int .i64 o, .slice A l.length c] zoneT)) (fun W hW => rtwice_any o A c l x W ok ((hL.more hb0).more hW) hx2))
  rw [h1] at F1
  rw [h2] at F2
  clear h1 h2 hL hr ok hu2 hx2
  generalize offZ o l u = r1 at *
  generalize utcZ o l x = r2 at *
  generalize lastZ o l x = r3 at *
  generalize decide (r2 ≤ r3) = r4 at *
  generalize decide (r2 < r3) = r5 at *
  generalize u + r1 = r6 at *
  go_enter Try.func4, Try.ntmps4
  go_wp2_with (first
    | (go_at_call 8; first | (with_reducible refine (F1.out _ hS).mono ?_) | (with_reducible refine (F2.out _ hS).mono ?_))
    | (with_reducible rintro e w' ⟨rfl, hS⟩; have x0 := z0 _ hS; have x1 := z1 _ hS))
  have q0 : ∀ y : Wd (SW (w.alloc (.cells #[.int .i64 o, .slice A l.length c] zoneT))), y.w.cell? ⟨w.heap.size, 0, none⟩ = some (.int .i64 o) := fun y => z0 _ y.ok
  have q1 : ∀ y : Wd (SW (w.alloc (.cells #[.int .i64 o, .slice A l.length c] zoneT))), y.w.cell? ⟨w.heap.size, 1, none⟩ = some (.slice A l.length c) := fun y => z1 _ y.ok
  have hNe : Nonempty (Wd (SW (w.alloc (.cells #[.int .i64 o, .slice A l.length c] zoneT)))) := ⟨⟨_, (Below.drew hS)⟩⟩
  refine quietS (S := SW (w.alloc (.cells #[.int .i64 o, .slice A l.length c] zoneT))) (by kernel_rfl) (by kernel_rfl) ((Below.drew hS)) ?_
  repeat (first | go_big_quiet_skip | (go_big_quiet_want; go_big_quiet_op; first | go_big_quiet_on | go_big_quiet_call ((first | (go_at_call 9; (with_reducible exact quiet_S (K1.out _ (Wd.ok _)))) | (go_at_call 10; (with_reducible exact quiet_S (K2.out _ (Wd.ok _)))) | (go_at_call 11; (with_reducible exact quiet_S (K3.out _ (Wd.ok _)))) | (go_at_call 12; (with_reducible exact quiet_S (K4.out _ (Wd.ok _)))) | (go_at_call 13; (with_reducible exact quiet_S (K5.out _ (Wd.ok _)))) | (go_at_call 14; (with_reducible exact quiet_S (K6.out _ (Wd.ok _)))) | (go_at_call 15; (with_reducible exact quiet_S (K7.out _ (Wd.ok _)))) | (go_at_call 16; (with_reducible exact quiet_S (K8.out _ (Wd.ok _)))) | (go_at_call 17; (with_reducible exact quiet_S (K9.out _ (Wd.ok _)))) | (go_at_call 18; (with_reducible exact quiet_S (K10.out _ (Wd.ok _)))) | (go_at_call 7; (with_reducible exact quiet_S (K0.out _ (Wd.ok _))))))))
  refine wpQuiet_nil ?_
  rintro W ⟨⟨_, hW⟩, rfl⟩
  go_wp2
  go_ret
  exact ⟨rfl, hb0.trans (Below.mono hW hb0.size)⟩

end Go.Proofs.Ytbkpienklhmgbaa
