/- The examples of the chapter: knows answers true. -/
import Derived.Test.YtalnocdgmcchaaaDoorParseR
import Derived.Test.YtalnocdgmcchaaaDoorSplitS
namespace Go.Proofs.YtalnocdgmcchaaaDoor
open Go.RowKit Go.Sort
set_option linter.unusedSimpArgs false
set_option linter.unusedVariables false

theorem k_add : addR 250 (-100) = (150, 0) := by decide
theorem k_sub : subR (-1099511627776) 1 = (0, 11) := by decide
theorem k_perc : percR (-1) 5000 = (0, 0) := by decide
theorem k_up : upR (-101) 100 = (-100, 0) := by decide
theorem k_weigh : weighR [1, 1, 1] = (3, 0) := by decide
theorem k_parse1 : parseR [48, 46, 48, 53] = (5, 0) := by decide
theorem k_parse2 : (parseR [45, 48, 46, 48, 48]).2 = 3 := by decide
theorem k_print : printL (-1250) = [45, 49, 50, 46, 53, 48] := by
  unfold printL
  rw [show (-1250 : Int).natAbs / 100 = 12 by decide, decDigits_step 12 (by omega), decDigits_small (12 / 10) (by omega)]
  decide
theorem k_rem : remL 10000 [1, 1, 1] = [1, 1, 1] := by decide
theorem k_ord : Ordered [1, 1, 1] [0, 1, 2] := by
  refine ⟨rfl, ?_, fun i j hi hj => ?_⟩
  · exact List.Perm.refl _
  · simp only [List.length_cons, List.length_nil] at hj
    have : (i = 0 ∧ j = 1) ∨ (i = 0 ∧ j = 2) ∨ (i = 1 ∧ j = 2) := by omega
    rcases this with ⟨rfl, rfl⟩ | ⟨rfl, rfl⟩ | ⟨rfl, rfl⟩ <;> exact Or.inr ⟨rfl, Nat.le_of_ble_eq_true rfl⟩
theorem k_shares : tab (shareF 10000 [1, 1, 1] [0, 1, 2]) 3 = [3334, 3333, 3333] := by decide
theorem ex_split (v : Value) (w : World) (hv : IntL w v [1, 1, 1]) :
    Calls Tryd.prog 20 #[.int .i64 10000, v] w fun e w' => ∃ u, e = .returned (.tuple #[u, .int .i64 0]) ∧ IntL w' u [3334, 3333, 3333] ∧ Below w.heap.size w w' := by
  refine (split_ok v 10000 [1, 1, 1] w 3 hv (by decide) k_weigh (by decide)).mono ?_
  rintro e w' ⟨u, ord, he, ho, hl, hb⟩
  rw [k_rem] at ho
  have e1 := ordered_one ho k_ord
  subst e1
  refine ⟨u, he, ?_, hb⟩
  have h : tab (shareF 10000 [1, 1, 1] [0, 1, 2]) ([1, 1, 1] : List Int).length = [3334, 3333, 3333] := k_shares
  rw [h] at hl
  exact hl
theorem lit3 (w : World) : IntL (w.alloc (.cells #[.int .i64 1, .int .i64 1, .int .i64 1] 3)) (.slice (some ⟨w.heap.size, 0, none⟩) 3 3) [1, 1, 1] := by
  refine ⟨_, _, rfl, .inr ⟨w.heap.size, 0, rfl, by simp, fun i hi => ?_⟩⟩
  have hb : (w.alloc (.cells #[.int .i64 1, .int .i64 1, .int .i64 1] 3)).heap[w.heap.size]? = some (.cells #[.int .i64 1, .int .i64 1, .int .i64 1] 3 (0, 0)) := heap_alloc_new w _
  rw [Nat.zero_add, cell_of_row _ w.heap.size i _ 3 (0, 0) hb]
  simp only [List.length_cons, List.length_nil] at hi
  match i, hi with
  | 0, _ => rfl
  | 1, _ => rfl
  | 2, _ => rfl

set_option maxRecDepth 100000 in
set_option maxHeartbeats 4000000 in
theorem knows_any (w : World) (hE : Env w) :
    Calls Tryd.prog 9 #[] w fun e w' => e = .returned (.bool true) ∧ Below w.heap.size w w' := by
  have HE := Lib.hid hE
  have C1 := Lib.hid (fun w => add_any 250 (-100) w)
  rw [k_add] at C1
  have C2 := Lib.hid (fun w => sub_any (-1099511627776) 1 w (by omega) (by omega))
  rw [k_sub] at C2
  have C3 := Lib.hid (fun w => percent_any (-1) 5000 w)
  rw [k_perc] at C3
  have C4 := Lib.hid (fun w => up_any (-101) 100 w (by omega) (by omega))
  rw [k_up] at C4
  have C6 := Lib.hid (fun w hE => parse_any ⟨#[48, 46, 48, 53]⟩ w (by decide) hE)
  rw [show (⟨#[48, 46, 48, 53]⟩ : ByteArray).data.toList = [48, 46, 48, 53] from rfl, k_parse1] at C6
  have C7 := Lib.hid (fun w hE => parse_any ⟨#[45, 48, 46, 48, 48]⟩ w (by decide) hE)
  rw [show (⟨#[45, 48, 46, 48, 48]⟩ : ByteArray).data.toList = [45, 48, 46, 48, 48] from rfl, k_parse2] at C7
  obtain ⟨z7, hz7⟩ : ∃ z, z = (parseR [45, 48, 46, 48, 48]).1 := ⟨_, rfl⟩
  rw [← hz7] at C7
  have C8 := Lib.hid (fun w hE => print_any (-1250) w (by omega) (by omega) hE)
  rw [k_print] at C8
  clear hz7 hE
  go_enter Tryd.func9, Tryd.ntmps9
  go_wp2_with fail
  refine (C1.out _).mono ?_
  rintro e w' ⟨rfl, rfl⟩
  go_wp2_with fail
  refine (C2.out _).mono ?_
  rintro e w' ⟨rfl, rfl⟩
  go_wp2_with fail
  refine (C3.out _).mono ?_
  rintro e w' ⟨rfl, n, rfl⟩
  have B1 : Hid (Below w.heap.size w (w.drewN n)) := Lib.hid (below_drewN (Below.refl _ _) n)
  generalize w.drewN n = w1 at B1 ⊢
  go_wp2_with fail
  refine (C4.out _).mono ?_
  rintro e w' ⟨rfl, rfl⟩
  go_wp2_with fail
  refine (ex_split _ _ (lit3 _)).mono ?_
  rintro e w2 ⟨u, rfl, hu, hb2⟩
  have B2 : Hid (Below w.heap.size w w2) := Lib.hid ((B1.out.alloc B1.out.size _).trans (hb2.mono (by have := B1.out.size; simp; omega)))
  have HU := Lib.hid hu
  clear hu hb2
  go_wp2_with fail
  refine (C6.out _ (HE.out.more B2.out)).mono ?_
  rintro e w3 ⟨rfl, hb3⟩
  have HU3 := Lib.hid (HU.out.more hb3)
  have B3 : Hid (Below w.heap.size w w3) := Lib.hid (B2.out.trans (hb3.mono B2.out.size))
  clear hb3
  go_wp2_with fail
  refine (C7.out _ (HE.out.more B3.out)).mono ?_
  rintro e w4 ⟨rfl, hb4⟩
  have hul := HU3.out.more hb4
  have B4 : Hid (Below w.heap.size w w4) := Lib.hid (B3.out.trans (hb4.mono B3.out.size))
  obtain ⟨A, c, rfl, hcc⟩ := hul
  obtain ⟨b, o, rfl, hb, hcl⟩ : ∃ b o, A = some ⟨b, o, none⟩ ∧ b < w4.heap.size ∧ ∀ i (h : i < ([3334, 3333, 3333] : List Int).length), w4.cell? ⟨b, o + i, none⟩ = some (.int .i64 ([3334, 3333, 3333] : List Int)[i]) := by
    rcases hcc with h | h
    · cases h
    · exact h
  have g0 : w4.cell? ⟨b, o, none⟩ = some (.int .i64 3334) := hcl 0 (by decide)
  have g1 : w4.cell? ⟨b, o + 1, none⟩ = some (.int .i64 3333) := hcl 1 (by decide)
  clear hb4 hcc hcl HU HU3
  go_wp2_with fail
  refine (C8.out _ (HE.out.more B4.out)).mono ?_
  rintro e w5 ⟨rfl, hb5⟩
  have B5 : Hid (Below w.heap.size w w5) := Lib.hid (B4.out.trans (hb5.mono B4.out.size))
  clear hb5
  go_wp2
  go_ret
  exact ⟨rfl, B5.out⟩
end Go.Proofs.YtalnocdgmcchaaaDoor
