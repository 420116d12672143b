/- Walks of knows, far and the laws. -/
import Derived.Test.YtbkpienklhmgbaaZonB
import Derived.Test.YtbkpienklhmgbaaZonF
namespace Go.Proofs.Ytbkpienklhmgbaa
open Go.RowKit Go.Shelf
set_option linter.unusedSimpArgs false
set_option linter.unusedVariables false

abbrev la : Shs := [(10000, 120)]
abbrev lb : Shs := [(10000, 0)]
abbrev lc : Shs := [(1000, 60), (3000, 0)]
theorem ok_a : OkZ 60 la := errZ_ok (by decide)
theorem ok_b : OkZ 60 lb := errZ_ok (by decide)
/-- the world behind the three zones of the examples -/
def W6 (w : World) : World := ((((((w.alloc (.cells #[.int .i64 10000, .int .i64 120] shiftT)).alloc (.cells #[.int .i64 60, .slice (some ⟨w.heap.size, 0, none⟩) 1 1] zoneT)).alloc (.cells #[.int .i64 10000, .int .i64 0] shiftT)).alloc
  (.cells #[.int .i64 60, .slice (some ⟨w.heap.size + 1 + 1, 0, none⟩) 1 1] zoneT)).alloc (.cells #[.int .i64 1000, .int .i64 60, .int .i64 3000, .int .i64 0] shiftT)).alloc (.cells #[.int .i64 0, .slice (some ⟨w.heap.size + 1 + 1 + 1 + 1, 0, none⟩) 2 2] zoneT))
theorem cell_at (w : World) (cs : Array Value) (t : TypeId) (j n : Nat) (h : n = w.heap.size) : (w.alloc (.cells cs t)).cell? ⟨n, j, none⟩ = cs[j]? := by subst h; exact cells_new w cs t j
theorem cell_old {w : World} {a : Addr} {v : Value} (o : Obj) (h : w.cell? a = some v) : (w.alloc o).cell? a = some v := bel_cell (bel_alloc w o) h
theorem W6.bel (w : World) : Below w.heap.size w (W6 w) := (((((bel_alloc w _).alloc (by simp) _).alloc (by simp; omega) _).alloc (by simp; omega) _).alloc (by simp; omega) _).alloc (by simp; omega) _
theorem W6.a0 (w : World) : (W6 w).cell? ⟨w.heap.size + 1, 0, none⟩ = some (.int .i64 60) := cell_old _ (cell_old _ (cell_old _ (cell_old _ ((cell_at _ _ _ 0 _ (by simp)).trans rfl))))
theorem W6.a1 (w : World) : (W6 w).cell? ⟨w.heap.size + 1, 1, none⟩ = some (.slice (some ⟨w.heap.size, 0, none⟩) 1 1) := cell_old _ (cell_old _ (cell_old _ (cell_old _ ((cell_at _ _ _ 1 _ (by simp)).trans rfl))))
theorem W6.b0 (w : World) : (W6 w).cell? ⟨w.heap.size + 1 + 1 + 1, 0, none⟩ = some (.int .i64 60) := cell_old _ (cell_old _ ((cell_at _ _ _ 0 _ (by simp)).trans rfl))
theorem W6.b1 (w : World) : (W6 w).cell? ⟨w.heap.size + 1 + 1 + 1, 1, none⟩ = some (.slice (some ⟨w.heap.size + 1 + 1, 0, none⟩) 1 1) := cell_old _ (cell_old _ ((cell_at _ _ _ 1 _ (by simp)).trans rfl))
theorem W6.c0 (w : World) : (W6 w).cell? ⟨w.heap.size + 1 + 1 + 1 + 1 + 1, 0, none⟩ = some (.int .i64 0) := (cell_at _ _ _ 0 _ (by simp)).trans rfl
theorem W6.c1 (w : World) : (W6 w).cell? ⟨w.heap.size + 1 + 1 + 1 + 1 + 1, 1, none⟩ = some (.slice (some ⟨w.heap.size + 1 + 1 + 1 + 1, 0, none⟩) 2 2) := (cell_at _ _ _ 1 _ (by simp)).trans rfl
theorem shL_one {W : World} {b : Nat} {x y : Int} (h0 : W.cell? ⟨b, 0, none⟩ = some (.int .i64 x)) (h1 : W.cell? ⟨b, 1, none⟩ = some (.int .i64 y)) : ShL W (some ⟨b, 0, none⟩) [(x, y)] :=
  .inr ⟨b, 0, rfl, World.block_lt_of_cell? _ _ h0, fun i hi => by
    obtain rfl : i = 0 := by simp at hi; omega
    exact ⟨h0, h1⟩⟩
theorem shL_two {W : World} {b : Nat} {x y x' y' : Int} (h0 : W.cell? ⟨b, 0, none⟩ = some (.int .i64 x)) (h1 : W.cell? ⟨b, 1, none⟩ = some (.int .i64 y)) (h2 : W.cell? ⟨b, 2, none⟩ = some (.int .i64 x')) (h3 : W.cell? ⟨b, 3, none⟩ = some (.int .i64 y')) : ShL W (some ⟨b, 0, none⟩) [(x, y), (x', y')] :=
  .inr ⟨b, 0, rfl, World.block_lt_of_cell? _ _ h0, fun i hi => by
    have : i = 0 ∨ i = 1 := by simp at hi; omega
    rcases this with rfl | rfl
    · exact ⟨h0, h1⟩
    · exact ⟨h2, h3⟩⟩
theorem W6.A (w : World) : ShL (W6 w) (some ⟨w.heap.size, 0, none⟩) la :=
  shL_one (cell_old _ (cell_old _ (cell_old _ (cell_old _ (cell_old _ ((cell_at _ _ _ 0 _ rfl).trans rfl)))))) (cell_old _ (cell_old _ (cell_old _ (cell_old _ (cell_old _ ((cell_at _ _ _ 1 _ rfl).trans rfl))))))
theorem W6.B (w : World) : ShL (W6 w) (some ⟨w.heap.size + 1 + 1, 0, none⟩) lb :=
  shL_one (cell_old _ (cell_old _ (cell_old _ ((cell_at _ _ _ 0 _ (by simp)).trans rfl)))) (cell_old _ (cell_old _ (cell_old _ ((cell_at _ _ _ 1 _ (by simp)).trans rfl))))
theorem W6.C (w : World) : ShL (W6 w) (some ⟨w.heap.size + 1 + 1 + 1 + 1, 0, none⟩) lc :=
  shL_two (cell_old _ ((cell_at _ _ _ 0 _ (by simp)).trans rfl)) (cell_old _ ((cell_at _ _ _ 1 _ (by simp)).trans rfl)) (cell_old _ ((cell_at _ _ _ 2 _ (by simp)).trans rfl)) (cell_old _ ((cell_at _ _ _ 3 _ (by simp)).trans rfl))
theorem bel_get {w5 : World} {a : Addr} {v : Value} (h : w5.cell? a = some v) (W : World) (hS : SW w5 W) : W.cell? a = some v := bel_cell hS h

set_option maxRecDepth 100000 in
set_option maxHeartbeats 4000000 in
theorem knows_any (w : World) : Calls Try.prog 7 #[] w fun e w' => e = .returned (.bool true) ∧ Below w.heap.size w w' := by
  have hb0 := W6.bel w
  have hA := W6.A w
  have hB := W6.B w
  have hC := W6.C w
  have fa0 := bel_get (W6.a0 w)
  have fa1 := bel_get (W6.a1 w)
  have fb0 := bel_get (W6.b0 w)
  have fb1 := bel_get (W6.b1 w)
  have fc0 := bel_get (W6.c0 w)
  have fc1 := bel_get (W6.c1 w)
  have K1 : Hid (∀ W, SW (W6 w) W → Calls Try.prog 5 #[encZ 60 (some ⟨w.heap.size, 0, none⟩) 1 1] W fun e w' => e = .returned (.int .i64 0) ∧ SW (W6 w) w') :=
    Lib.hid (SW.call (fun W hW => check_any 60 _ 1 la W (by decide) (hA.more hW) (by decide)))
  have K2 : Hid (∀ W, SW (W6 w) W → Calls Try.prog 5 #[encZ 0 (some ⟨w.heap.size + 1 + 1 + 1 + 1, 0, none⟩) 2 2] W fun e w' => e = .returned (.int .i64 13) ∧ SW (W6 w) w') :=
    Lib.hid (SW.call (fun W hW => check_any 0 _ 2 lc W (by decide) (hC.more hW) (by decide)))
  have K3 : Hid (∀ W, SW (W6 w) W → Calls Try.prog 11 #[encZ 60 (some ⟨w.heap.size, 0, none⟩) 1 1, .int .i64 9999] W fun e w' => e = .returned (.int .i64 10059) ∧ SW (W6 w) w') :=
    Lib.hid (SW.call (fun W hW => local_any 60 _ 1 la 9999 W ok_a (hA.more hW) (by decide)))
  have K4 : Hid (∀ W, SW (W6 w) W → Calls Try.prog 11 #[encZ 60 (some ⟨w.heap.size, 0, none⟩) 1 1, .int .i64 10000] W fun e w' => e = .returned (.int .i64 10120) ∧ SW (W6 w) w') :=
    Lib.hid (SW.call (fun W hW => local_any 60 _ 1 la 10000 W ok_a (hA.more hW) (by decide)))
  have K5 : Hid (∀ W, SW (W6 w) W → Calls Try.prog 13 #[encZ 60 (some ⟨w.heap.size, 0, none⟩) 1 1, .int .i64 10059] W fun e w' => e = .returned (.int .i64 9999) ∧ SW (W6 w) w') :=
    Lib.hid (SW.call (fun W hW => utc_any 60 _ 1 la 10059 W ok_a (hA.more hW) (by decide)))
  have K6 : Hid (∀ W, SW (W6 w) W → Calls Try.prog 13 #[encZ 60 (some ⟨w.heap.size, 0, none⟩) 1 1, .int .i64 10100] W fun e w' => e = .returned (.int .i64 10000) ∧ SW (W6 w) w') :=
    Lib.hid (SW.call (fun W hW => utc_any 60 _ 1 la 10100 W ok_a (hA.more hW) (by decide)))
  have K7 : Hid (∀ W, SW (W6 w) W → Calls Try.prog 15 #[encZ 60 (some ⟨w.heap.size, 0, none⟩) 1 1, .int .i64 10060] W fun e w' => e = .returned (.bool false) ∧ SW (W6 w) w') :=
    Lib.hid (SW.call (fun W hW => exists_any 60 _ 1 la 10060 W ok_a (hA.more hW) (by decide)))
  have K8 : Hid (∀ W, SW (W6 w) W → Calls Try.prog 15 #[encZ 60 (some ⟨w.heap.size, 0, none⟩) 1 1, .int .i64 10120] W fun e w' => e = .returned (.bool true) ∧ SW (W6 w) w') :=
    Lib.hid (SW.call (fun W hW => exists_any 60 _ 1 la 10120 W ok_a (hA.more hW) (by decide)))
  have K9 : Hid (∀ W, SW (W6 w) W → Calls Try.prog 17 #[encZ 60 (some ⟨w.heap.size + 1 + 1, 0, none⟩) 1 1, .int .i64 10000] W fun e w' => e = .returned (.bool true) ∧ SW (W6 w) w') :=
    Lib.hid (SW.call (fun W hW => twice_any 60 _ 1 lb 10000 W ok_b (hB.more hW) (by decide)))
  have K10 : Hid (∀ W, SW (W6 w) W → Calls Try.prog 17 #[encZ 60 (some ⟨w.heap.size, 0, none⟩) 1 1, .int .i64 10000] W fun e w' => e = .returned (.bool false) ∧ SW (W6 w) w') :=
    Lib.hid (SW.call (fun W hW => twice_any 60 _ 1 la 10000 W ok_a (hA.more hW) (by decide)))
  have K11 : Hid (∀ W, SW (W6 w) W → Calls Try.prog 9 #[encZ 60 (some ⟨w.heap.size + 1 + 1, 0, none⟩) 1 1, .int .i64 20000] W fun e w' => e = .returned (.int .i64 0) ∧ SW (W6 w) w') :=
    Lib.hid (SW.call (fun W hW => offset_any 60 _ 1 lb 20000 W ok_b (hB.more hW)))
  have hS : SW (W6 w) (W6 w) := Below.refl _ _
  clear hA hB hC
  unfold W6 at *
  go_enter Try.func7, Try.ntmps7
  go_wp2_with (first
    | (go_at_call 5; first | (with_reducible refine (K1.out _ hS).mono ?_) | (with_reducible refine (K2.out _ hS).mono ?_))
    | (go_at_call 11; first | (with_reducible refine (K3.out _ hS).mono ?_) | (with_reducible refine (K4.out _ hS).mono ?_))
    | (go_at_call 13; first | (with_reducible refine (K5.out _ hS).mono ?_) | (with_reducible refine (K6.out _ hS).mono ?_))
    | (go_at_call 15; first | (with_reducible refine (K7.out _ hS).mono ?_) | (with_reducible refine (K8.out _ hS).mono ?_))
    | (go_at_call 17; first | (with_reducible refine (K9.out _ hS).mono ?_) | (with_reducible refine (K10.out _ hS).mono ?_))
    | (go_at_call 9; with_reducible refine (K11.out _ hS).mono ?_)
    | (with_reducible rintro e w' ⟨rfl, hS⟩; have xa0 := fa0 _ hS; have xa1 := fa1 _ hS; have xb0 := fb0 _ hS; have xb1 := fb1 _ hS; have xc0 := fc0 _ hS; have xc1 := fc1 _ hS))
  go_ret
  exact ⟨rfl, hb0.trans (Below.mono hS hb0.size)⟩

end Go.Proofs.Ytbkpienklhmgbaa
