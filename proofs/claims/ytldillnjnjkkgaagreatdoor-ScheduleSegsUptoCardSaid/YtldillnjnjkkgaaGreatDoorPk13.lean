/- Words and walks that the laws below ask: SchM, SchE2. -/
import Derived.Test.YtldillnjnjkkgaaGreatDoorPk8
import Derived.Test.YtldillnjnjkkgaaGreatDoorPk9
import Derived.Test.YtldillnjnjkkgaaGreatDoorPk12
/- Walk of knows: the examples of the laws of timetables. -/
namespace Go.Proofs.YtldillnjnjkkgaaGreatDoor
open Go.RowKit Go.Shelf
set_option linter.unusedSimpArgs false
set_option linter.unusedVariables false

set_option maxRecDepth 100000 in
set_option maxHeartbeats 16000000 in
theorem knows_any (w : World) : Calls Tryz.prog 25 #[] w fun e w' => e = .returned (.bool true) ∧ Below w.heap.size w w' := by
  have hP1 : Hid (∀ W, Calls Tryz.prog 81 #[] W fun e w' => ∃ N X, e = .returned (.agg X) ∧ Hid (X = #[.slice (some ⟨N, 0, none⟩) 2 2, .slice none 0 0]) ∧ AirL w' (some ⟨N, 0, none⟩) s7A ∧ Below W.heap.size W w') := Lib.hid places8_any
  have hF1 : Hid (∀ W, Calls Tryz.prog 82 #[] W fun e w' => ∃ M X, e = .returned (.agg X) ∧ Hid (X = #[.string ⟨#[66, 65]⟩, .int .i64 117, .int .i64 9497, .int .i64 9499, .int .i64 127, .slice (some ⟨M, 0, none⟩) 1 1]) ∧ LegL w' (.slice (some ⟨M, 0, none⟩) 1 1) [s7G 700] ∧ Below W.heap.size W w') := Lib.hid first8_any
  go_enter Tryz.func25, Tryz.ntmps25
  go_upto_region 2 with (first
    | (go_at_call 82; refine (hF1.out _).mono ?_; rintro e w2 ⟨M, XF, rfl, hXF, hG2, hb2⟩; have hszP : XP.size = 2 := (by rw [hXP.out]; rfl); have hszF : XF.size = 6 := (by rw [hXF.out]; rfl); obtain ⟨wA, wB, hst1, hst2, hPB, hxB, hw2B⟩ := store2 w2 hszP hszF (by rw [hXP.out]; simp [Value.oneCell']) (by rw [hXF.out]; simp [Value.oneCell']))
    | (go_at_call 81; refine (hP1.out _).mono ?_; rintro e w1 ⟨N, XP, rfl, hXP, hA1, hb1⟩))
  have e1 := hXP.out
  have e2 := hXF.out
  subst e1 e2
  clear hst1 hst2 hszP hszF hXP hXF
  have hAB := hA1.more (hb2.trans (hw2B.mono hb2.size))
  have hGB := hG2.more hw2B
  have HBW := Lib.hid (hb1.trans ((hb2.trans (hw2B.mono hb2.size)).mono hb1.size))
  clear hA1 hG2 hb1 hb2 hw2B hP1 hF1
  generalize w2.heap.size = a1 at *
  have y0 := (cell_of_row wB _ 0 _ _ (0, 0) hPB).trans (show _ = some _ from rfl)
  have y1 := (cell_of_row wB _ 1 _ _ (0, 0) hPB).trans (show _ = some _ from rfl)
  have q0 := (cell_of_row wB _ 0 _ _ (0, 0) hxB).trans (show _ = some _ from rfl)
  have q1 := (cell_of_row wB _ 1 _ _ (0, 0) hxB).trans (show _ = some _ from rfl)
  have q2 := (cell_of_row wB _ 2 _ _ (0, 0) hxB).trans (show _ = some _ from rfl)
  have q3 := (cell_of_row wB _ 3 _ _ (0, 0) hxB).trans (show _ = some _ from rfl)
  have q4 := (cell_of_row wB _ 4 _ _ (0, 0) hxB).trans (show _ = some _ from rfl)
  have q5 := (cell_of_row wB _ 5 _ _ (0, 0) hxB).trans (show _ = some _ from rfl)
  go_upto_region 3 with fail
  have hxC := heap_alloc_new wB (.cells #[.string ⟨#[66, 65]⟩, .int .i64 117, .int .i64 9497, .int .i64 9499, .int .i64 127, .slice (some ⟨M, 0, none⟩) 1 1] fliT)
  have hbC := bel_alloc wB (.cells #[.string ⟨#[66, 65]⟩, .int .i64 117, .int .i64 9497, .int .i64 9499, .int .i64 127, .slice (some ⟨M, 0, none⟩) 1 1] fliT)
  generalize hwC : wB.alloc (.cells #[.string ⟨#[66, 65]⟩, .int .i64 117, .int .i64 9497, .int .i64 9499, .int .i64 127, .slice (some ⟨M, 0, none⟩) 1 1] fliT) = wC at *
  clear hwC
  have c5 := (cell_of_row wC _ 5 _ _ (0, 0) hxC).trans (show _ = some _ from rfl)
  have z5 := frozen_of_row wC _ 5 _ _ hxC
  have hxD := heap_setCell_same wC wB.heap.size 5 _ fliT (.slice none 0 0) hxC
  have hbD := hbC.trans ((But.setCell wC wB.heap.size 5 (.slice none 0 0)).below hbC.size (fun k hk => by omega))
  go_upto_region 4 with fail
  generalize hwD : wC.setCell ⟨wB.heap.size, 5, none⟩ (.slice none 0 0) = wD at *
  clear hwD hxC hbC c5 z5
  have HAD := Lib.hid (hAB.more hbD)
  have HGD := Lib.hid (hGB.more hbD)
  have HBD := Lib.hid (HBW.out.trans (hbD.mono HBW.out.size))
  have FP0 := Lib.hid (bel_get (bel_cell hbD y0))
  have FP1 := Lib.hid (bel_get (bel_cell hbD y1))
  have FQ0 := Lib.hid (bel_get (bel_cell hbD q0))
  have FQ1 := Lib.hid (bel_get (bel_cell hbD q1))
  have FQ2 := Lib.hid (bel_get (bel_cell hbD q2))
  have FQ3 := Lib.hid (bel_get (bel_cell hbD q3))
  have FQ4 := Lib.hid (bel_get (bel_cell hbD q4))
  have FQ5 := Lib.hid (bel_get (bel_cell hbD q5))
  have FG0 := Lib.hid (bel_get ((cell_of_row wD _ 0 _ _ (0, 0) hxD).trans (show _ = some (Value.string ⟨#[66, 65]⟩) from rfl)))
  have FG1 := Lib.hid (bel_get ((cell_of_row wD _ 1 _ _ (0, 0) hxD).trans (show _ = some (Value.int .i64 117) from rfl)))
  have FG2 := Lib.hid (bel_get ((cell_of_row wD _ 2 _ _ (0, 0) hxD).trans (show _ = some (Value.int .i64 9497) from rfl)))
  have FG3 := Lib.hid (bel_get ((cell_of_row wD _ 3 _ _ (0, 0) hxD).trans (show _ = some (Value.int .i64 9499) from rfl)))
  have FG4 := Lib.hid (bel_get ((cell_of_row wD _ 4 _ _ (0, 0) hxD).trans (show _ = some (Value.int .i64 127) from rfl)))
  have FG5 := Lib.hid (bel_get ((cell_of_row wD _ 5 _ _ (0, 0) hxD).trans (show _ = some (Value.slice none 0 0) from rfl)))
  clear y0 y1 q0 q1 q2 q3 q4 q5 hAB hGB hxD hbD hPB hxB
  have OP : Hid (OkPl (s7P N)) := Lib.hid ⟨(show 2 ≤ 40 by omega), (by show ∀ a ∈ s7A, a.shs.length ≤ 300; decide), s7_ok⟩
  have hmL : ∀ x ∈ [s7G 700], (-1000000 ≤ x.dep ∧ x.dep ≤ 1000000) ∧ -1000000 ≤ x.arr ∧ x.arr ≤ 1000000 := fun x hx => by
    simp at hx; subst hx; exact ⟨by show -1000000 ≤ (500 : Int) ∧ (500 : Int) ≤ 1000000; omega, by show -1000000 ≤ (700 : Int) ∧ (700 : Int) ≤ 1000000; omega⟩
  have OT : Hid (OkT [k8F (some ⟨M, 0, none⟩) 1]) := Lib.hid ⟨(show 1 ≤ 1000 by omega), (fun f hf => by simp at hf; subst hf; show 1 ≤ 100; omega), (fun f hf => by simp at hf; subst hf; exact hmL)⟩
  have T1 : Hid (∀ W, SW wD W → TblL (W.alloc (.cells #[.string ⟨#[66, 65]⟩, .int .i64 117, .int .i64 9497, .int .i64 9499, .int .i64 127, .slice (some ⟨M, 0, none⟩) 1 1] fliT)) (.slice (some ⟨W.heap.size, 0, none⟩) 1 1) [k8F (some ⟨M, 0, none⟩) 1]) := Lib.hid (fun W h => ⟨RowL.new (enc := encF6) (sz := 6) W [k8F (some ⟨M, 0, none⟩) 1] fliT (fun _ => rfl) rfl 1, fun f hf => by simp at hf; subst hf; exact HGD.out.more (Below.trans h (Below.mono (bel_alloc W _) h.size))⟩)
  have S1 : Hid (∀ W, SW wD W → SW wD (W.alloc (.cells #[.string ⟨#[66, 65]⟩, .int .i64 117, .int .i64 9497, .int .i64 9499, .int .i64 127, .slice (some ⟨M, 0, none⟩) 1 1] fliT))) := Lib.hid (fun W h => Below.trans h (Below.mono (bel_alloc W _) h.size))
  have KOn : Hid (∀ W, SW wD W → Calls Tryz.prog 26 #[.slice (some ⟨W.heap.size, 0, none⟩) 1 1, .string ⟨#[66, 65]⟩, .int .i64 117, .int .i64 9500] (W.alloc (.cells #[.string ⟨#[66, 65]⟩, .int .i64 117, .int .i64 9497, .int .i64 9499, .int .i64 127, .slice (some ⟨M, 0, none⟩) 1 1] fliT)) (fun e w' => ∃ X A c, e = .returned (.tuple #[.agg X, .bool false]) ∧ Hid (X = fliX fliZ A c) ∧ Below W.heap.size W w')) := Lib.hid (fun W h => by
    have h2 := on_x (.slice (some ⟨W.heap.size, 0, none⟩) 1 1) [k8F (some ⟨M, 0, none⟩) 1] ⟨#[66, 65]⟩ 117 9500 (W.alloc (.cells #[.string ⟨#[66, 65]⟩, .int .i64 117, .int .i64 9497, .int .i64 9499, .int .i64 127, .slice (some ⟨M, 0, none⟩) 1 1] fliT)) (T1.out W h) (show 1 ≤ 1000 by omega) (fun f hf => by simp at hf; subst hf; show 1 ≤ 1000; omega) (by omega) (by omega)
    rw [k8_off (some ⟨M, 0, none⟩) 1 9500 k8_h0] at h2
    exact h2.mono (by rintro e w' ⟨X, A, c, rfl, hX, _, hb⟩; exact ⟨X, A, c, rfl, hX, (bel_alloc W _).trans (Below.mono hb (bel_alloc W _).size)⟩))
  have KS1 : Hid (∀ W, SW wD W → Calls Tryz.prog 28 #[.agg #[.slice (some ⟨N, 0, none⟩) 2 2, .slice none 0 0], .slice (some ⟨W.heap.size, 0, none⟩) 1 1, .string ⟨#[66, 65]⟩, .int .i64 117, .int .i64 9498, .string ⟨#[76, 72, 82]⟩, .string ⟨#[74, 70, 75]⟩] (W.alloc (.cells #[.string ⟨#[66, 65]⟩, .int .i64 117, .int .i64 9497, .int .i64 9499, .int .i64 127, .slice (some ⟨M, 0, none⟩) 1 1] fliT)) fun e w' => e = .returned (.tuple #[.agg #[.string ⟨#[66, 65]⟩, .int .i64 117, .int .i64 9498, .string ⟨#[76, 72, 82]⟩, .string ⟨#[74, 70, 75]⟩, .int .i64 13677620, .int .i64 13678120], .int .i64 0]) ∧ Below W.heap.size W w') := Lib.hid (fun W h => by
    have h2 := seg_any (s7P N) (.slice (some ⟨W.heap.size, 0, none⟩) 1 1) [k8F (some ⟨M, 0, none⟩) 1] ⟨#[66, 65]⟩ 117 9498 ⟨#[76, 72, 82]⟩ ⟨#[74, 70, 75]⟩ (W.alloc (.cells #[.string ⟨#[66, 65]⟩, .int .i64 117, .int .i64 9497, .int .i64 9499, .int .i64 127, .slice (some ⟨M, 0, none⟩) 1 1] fliT)) (fun _ => OP.out) OT.out (HAD.out.more (S1.out W h)) (T1.out W h) (by omega) (by omega)
    rw [show (s7P N).l = s7A from rfl, k8_seg1] at h2
    exact h2.mono (by rintro e w' ⟨rfl, hb⟩; exact ⟨rfl, (bel_alloc W _).trans (Below.mono hb (bel_alloc W _).size)⟩))
  have KS2 : Hid (∀ W, SW wD W → Calls Tryz.prog 28 #[.agg #[.slice (some ⟨N, 0, none⟩) 2 2, .slice none 0 0], .slice (some ⟨W.heap.size, 0, none⟩) 1 1, .string ⟨#[66, 65]⟩, .int .i64 117, .int .i64 9498, .string ⟨#[74, 70, 75]⟩, .string ⟨#[76, 72, 82]⟩] (W.alloc (.cells #[.string ⟨#[66, 65]⟩, .int .i64 117, .int .i64 9497, .int .i64 9499, .int .i64 127, .slice (some ⟨M, 0, none⟩) 1 1] fliT)) fun e w' => e = .returned (.tuple #[.agg #[.string noB, .int .i64 0, .int .i64 0, .string noB, .string noB, .int .i64 0, .int .i64 0], .int .i64 14]) ∧ Below W.heap.size W w') := Lib.hid (fun W h => by
    have h2 := seg_any (s7P N) (.slice (some ⟨W.heap.size, 0, none⟩) 1 1) [k8F (some ⟨M, 0, none⟩) 1] ⟨#[66, 65]⟩ 117 9498 ⟨#[74, 70, 75]⟩ ⟨#[76, 72, 82]⟩ (W.alloc (.cells #[.string ⟨#[66, 65]⟩, .int .i64 117, .int .i64 9497, .int .i64 9499, .int .i64 127, .slice (some ⟨M, 0, none⟩) 1 1] fliT)) (fun _ => OP.out) OT.out (HAD.out.more (S1.out W h)) (T1.out W h) (by omega) (by omega)
    rw [show (s7P N).l = s7A from rfl, k8_seg2] at h2
    exact h2.mono (by rintro e w' ⟨rfl, hb⟩; exact ⟨rfl, (bel_alloc W _).trans (Below.mono hb (bel_alloc W _).size)⟩))
  have KDf : Hid (∀ W, SW wD W → Calls Tryz.prog 37 #[.slice (some ⟨W.heap.size, 0, none⟩) 1 1, .slice none 0 0, .string ⟨#[66, 65]⟩, .int .i64 117, .agg #[.int .i64 9499, .int .i64 9505, .int .i64 127]] (W.alloc (.cells #[.string ⟨#[66, 65]⟩, .int .i64 117, .int .i64 9497, .int .i64 9499, .int .i64 127, .slice (some ⟨M, 0, none⟩) 1 1] fliT)) fun e w' => ∃ b o c, e = .returned (.slice (some ⟨b, o, none⟩) 1 c) ∧ w'.cell? ⟨b, o, none⟩ = some (.int .i64 9499) ∧ Below W.heap.size W w') := Lib.hid (fun W h => by
    have h2 := differ_any (.slice (some ⟨W.heap.size, 0, none⟩) 1 1) (.slice none 0 0) [k8F (some ⟨M, 0, none⟩) 1] [] ⟨#[66, 65]⟩ 117 (9499, 9505, 127) (W.alloc (.cells #[.string ⟨#[66, 65]⟩, .int .i64 117, .int .i64 9497, .int .i64 9499, .int .i64 127, .slice (some ⟨M, 0, none⟩) 1 1] fliT)) (T1.out W h) ⟨⟨none, 0, rfl, .inl rfl⟩, fun f hf => by simp at hf⟩ (show 1 ≤ 1000 by omega) (by simp) (fun f hf => by simp at hf; subst hf; show 1 ≤ 1000; omega) (fun f hf => by simp at hf) (by simp) (by simp)
    rw [k8_dif] at h2
    exact h2.mono (by
      rintro e w' ⟨r, rfl, ⟨A, c, rfl, hr⟩, hb⟩
      rcases hr with h0 | ⟨b, o, rfl, hlt, hc⟩
      · cases h0
      · exact ⟨b, o, c, rfl, by simpa using hc 0 9499 0 _ rfl rfl, (bel_alloc W _).trans (Below.mono hb (bel_alloc W _).size)⟩))
  have KDy : Hid (∀ W, SW wD W → Calls Tryz.prog 31 #[.agg #[.slice (some ⟨N, 0, none⟩) 2 2, .slice none 0 0], .slice (some ⟨W.heap.size, 0, none⟩) 1 1, .int .i64 9499] (W.alloc (.cells #[.string ⟨#[66, 65]⟩, .int .i64 117, .int .i64 9497, .int .i64 9499, .int .i64 127, .slice (some ⟨M, 0, none⟩) 1 1] fliT)) fun e w' => ∃ b o c, e = .returned (.slice (some ⟨b, o, none⟩) 1 c) ∧ w'.cell? ⟨b, o + 6, none⟩ = some (.int .i64 13679560) ∧ Below W.heap.size W w') := Lib.hid (fun W h => by
    have h2 := sday_any (s7P N) (.slice (some ⟨W.heap.size, 0, none⟩) 1 1) [k8F (some ⟨M, 0, none⟩) 1] 9499 (W.alloc (.cells #[.string ⟨#[66, 65]⟩, .int .i64 117, .int .i64 9497, .int .i64 9499, .int .i64 127, .slice (some ⟨M, 0, none⟩) 1 1] fliT)) (fun _ => OP.out) OT.out (HAD.out.more (S1.out W h)) (T1.out W h) (by omega) (by omega) (sort_one (by rw [show (s7P N).l = s7A from rfl, k8_day]; simp))
    rw [show (s7P N).l = s7A from rfl, k8_day] at h2
    exact h2.mono (by
      rintro e w' ⟨r, L', rfl, ⟨A, c, rfl, hr⟩, ⟨hp, _⟩, hb⟩
      obtain rfl := List.perm_singleton.1 hp
      rcases hr with h0 | ⟨b, o, rfl, hlt, hc⟩
      · cases h0
      · exact ⟨b, o, c, rfl, by simpa [k8D] using hc 0 _ 6 _ rfl rfl, (bel_alloc W _).trans (Below.mono hb (bel_alloc W _).size)⟩))
  have KO1 : Hid (∀ W, SW wD W → Calls Tryz.prog 33 #[.agg #[.slice (some ⟨N, 0, none⟩) 2 2, .slice none 0 0], .slice (some ⟨W.heap.size, 0, none⟩) 1 1, .agg #[.string ⟨#[66, 65]⟩, .int .i64 117, .int .i64 9498, .string ⟨#[76, 72, 82]⟩, .string ⟨#[74, 70, 75]⟩, .int .i64 13677620, .int .i64 13678120]] (W.alloc (.cells #[.string ⟨#[66, 65]⟩, .int .i64 117, .int .i64 9497, .int .i64 9499, .int .i64 127, .slice (some ⟨M, 0, none⟩) 1 1] fliT)) fun e w' => e = .returned (.bool true) ∧ Below W.heap.size W w') := Lib.hid (fun W h => by
    have h2 := operated_any (s7P N) (.slice (some ⟨W.heap.size, 0, none⟩) 1 1) [k8F (some ⟨M, 0, none⟩) 1] (k8S 13677620) (W.alloc (.cells #[.string ⟨#[66, 65]⟩, .int .i64 117, .int .i64 9497, .int .i64 9499, .int .i64 127, .slice (some ⟨M, 0, none⟩) 1 1] fliT)) (fun _ => OP.out) OT.out (HAD.out.more (S1.out W h)) (T1.out W h) (by show -9223372036854775808 ≤ (9498 : Int); omega) (by show (9498 : Int) ≤ 9223372036854775807; omega)
    rw [show (s7P N).l = s7A from rfl, k8_op1] at h2
    exact h2.mono (by rintro e w' ⟨rfl, hb⟩; exact ⟨rfl, (bel_alloc W _).trans (Below.mono hb (bel_alloc W _).size)⟩))
  have KO2 : Hid (∀ W, SW wD W → Calls Tryz.prog 33 #[.agg #[.slice (some ⟨N, 0, none⟩) 2 2, .slice none 0 0], .slice (some ⟨W.heap.size, 0, none⟩) 1 1, .agg #[.string ⟨#[66, 65]⟩, .int .i64 117, .int .i64 9498, .string ⟨#[76, 72, 82]⟩, .string ⟨#[74, 70, 75]⟩, .int .i64 13677621, .int .i64 13678120]] (W.alloc (.cells #[.string ⟨#[66, 65]⟩, .int .i64 117, .int .i64 9497, .int .i64 9499, .int .i64 127, .slice (some ⟨M, 0, none⟩) 1 1] fliT)) fun e w' => e = .returned (.bool false) ∧ Below W.heap.size W w') := Lib.hid (fun W h => by
    have h2 := operated_any (s7P N) (.slice (some ⟨W.heap.size, 0, none⟩) 1 1) [k8F (some ⟨M, 0, none⟩) 1] (k8S 13677621) (W.alloc (.cells #[.string ⟨#[66, 65]⟩, .int .i64 117, .int .i64 9497, .int .i64 9499, .int .i64 127, .slice (some ⟨M, 0, none⟩) 1 1] fliT)) (fun _ => OP.out) OT.out (HAD.out.more (S1.out W h)) (T1.out W h) (by show -9223372036854775808 ≤ (9498 : Int); omega) (by show (9498 : Int) ≤ 9223372036854775807; omega)
    rw [show (s7P N).l = s7A from rfl, k8_op2] at h2
    exact h2.mono (by rintro e w' ⟨rfl, hb⟩; exact ⟨rfl, (bel_alloc W _).trans (Below.mono hb (bel_alloc W _).size)⟩))
  have KFc : ∀ f ∈ [k8F (some ⟨M, 0, none⟩) 1, k8G], ∀ W, SW wD W → Calls Tryz.prog 54 #[encP (s7P N), encFl f] W fun e w' => ∃ v, e = .returned v ∧ FOwn W.heap.size w' v (chF (s7P N).l f) ∧ Below W.heap.size W w' := fun f hf W h => by
    simp only [List.mem_cons, List.not_mem_nil, or_false] at hf
    rcases hf with rfl | rfl
    · exact fcheck_any (s7P N) (k8F (some ⟨M, 0, none⟩) 1) W OP.out.la (HAD.out.more h) OP.out.sh OP.out.oz (HGD.out.more h) (show 1 ≤ 100 by omega) (show 1 ≤ 1 by omega) (show 2 ≤ maxLen by decide) (fun x hx => by simp [k8F] at hx; subst hx; exact s7_okG 700 (by omega)) (fun _ _ W' hW' => checkTimes_any (s7P N) (k8F (some ⟨M, 0, none⟩) 1) W' OP.out.la ((HAD.out.more h).more hW') OP.out.sh OP.out.oz ((HGD.out.more h).more hW') (show 1 ≤ 100 by omega) hmL)
    · exact fcheck_any (s7P N) k8G W OP.out.la (HAD.out.more h) OP.out.sh OP.out.oz ⟨none, 0, rfl, .inl rfl⟩ (show 0 ≤ 100 by omega) (Nat.le_refl _) (show 2 ≤ maxLen by decide) (fun x hx => by simp [k8G] at hx) (fun _ _ W' hW' => checkTimes_any (s7P N) k8G W' OP.out.la ((HAD.out.more h).more hW') OP.out.sh OP.out.oz ⟨none, 0, rfl, .inl rfl⟩ (show 0 ≤ 100 by omega) (fun x hx => by simp [k8G] at hx))
  have HKF := Lib.hid KFc
  clear KFc hmL
  have KCh : Hid (Calls Tryz.prog 23 #[.agg #[.slice (some ⟨N, 0, none⟩) 2 2, .slice none 0 0], .slice (some ⟨wD.heap.size, 0, none⟩) 2 2] (wD.alloc (.cells #[.string ⟨#[66, 65]⟩, .int .i64 117, .int .i64 9497, .int .i64 9499, .int .i64 127, .slice (some ⟨M, 0, none⟩) 1 1, .string ⟨#[66, 65]⟩, .int .i64 117, .int .i64 9497, .int .i64 9499, .int .i64 127, .slice none 0 0] fliT)) fun e w' => ∃ b o c, e = .returned (.slice (some ⟨b, o, none⟩) 2 c) ∧ (w'.cell? ⟨b, o, none⟩ = some (.int .i64 4) ∧ w'.cell? ⟨b, o + 1, none⟩ = some (.string ⟨#[102, 108, 105, 103, 104, 116, 32, 49, 32, 108, 101, 103, 115]⟩) ∧ w'.cell? ⟨b, o + 2, none⟩ = some (.int .i64 6) ∧ w'.cell? ⟨b, o + 2 + 1, none⟩ = some (.string ⟨#[102, 108, 105, 103, 104, 116, 32, 49]⟩)) ∧ Below wD.heap.size wD w') := Lib.hid (by
    have hS : SW wD (wD.alloc (.cells #[.string ⟨#[66, 65]⟩, .int .i64 117, .int .i64 9497, .int .i64 9499, .int .i64 127, .slice (some ⟨M, 0, none⟩) 1 1, .string ⟨#[66, 65]⟩, .int .i64 117, .int .i64 9497, .int .i64 9499, .int .i64 127, .slice none 0 0] fliT)) := bel_alloc wD _
    have hT : TblL (wD.alloc (.cells #[.string ⟨#[66, 65]⟩, .int .i64 117, .int .i64 9497, .int .i64 9499, .int .i64 127, .slice (some ⟨M, 0, none⟩) 1 1, .string ⟨#[66, 65]⟩, .int .i64 117, .int .i64 9497, .int .i64 9499, .int .i64 127, .slice none 0 0] fliT)) (.slice (some ⟨wD.heap.size, 0, none⟩) 2 2) [k8F (some ⟨M, 0, none⟩) 1, k8G] := ⟨RowL.new (enc := encF6) (sz := 6) wD [k8F (some ⟨M, 0, none⟩) 1, k8G] fliT (fun _ => rfl) rfl 2, fun f hf => by
      simp only [List.mem_cons, List.not_mem_nil, or_false] at hf
      rcases hf with rfl | rfl
      · exact HGD.out.more hS
      · exact ⟨none, 0, rfl, .inl rfl⟩⟩
    have h2 := scheck_any (s7P N) (.slice (some ⟨wD.heap.size, 0, none⟩) 2 2) [k8F (some ⟨M, 0, none⟩) 1, k8G] (wD.alloc (.cells #[.string ⟨#[66, 65]⟩, .int .i64 117, .int .i64 9497, .int .i64 9499, .int .i64 127, .slice (some ⟨M, 0, none⟩) 1 1, .string ⟨#[66, 65]⟩, .int .i64 117, .int .i64 9497, .int .i64 9499, .int .i64 127, .slice none 0 0] fliT)) (HAD.out.more hS) hT (show 2 ≤ 90 by omega) (fun f hf => by
      simp only [List.mem_cons, List.not_mem_nil, or_false] at hf
      rcases hf with rfl | rfl
      · refine ⟨show 2 ≤ maxLen by decide, (show (Lit.int .i64 117).wf = true by decide), ?_, ?_⟩ <;> rw [show (s7P N).l = s7A from rfl, k8_ch1] <;> simp
      · refine ⟨show 2 ≤ maxLen by decide, (show (Lit.int .i64 117).wf = true by decide), ?_, ?_⟩ <;> rw [show (s7P N).l = s7A from rfl, k8_ch2] <;> simp <;> decide) (fun f hf W h => HKF.out f hf W (Below.trans hS (Below.mono h hS.size)))
    rw [show (s7P N).l = s7A from rfl, show [k8F (some ⟨M, 0, none⟩) 1, k8G].length = 2 from rfl, k8_sch] at h2
    exact h2.mono (by
      rintro e w' ⟨r, rfl, hO, hb⟩
      obtain ⟨A, c, rfl, hr⟩ := hO.rowL rtF.len
      rcases hr with h0 | ⟨b, o, rfl, hlt, hc⟩
      · cases h0
      · exact ⟨b, o, c, rfl, ⟨by simpa using hc 0 _ 0 _ rfl rfl, by simpa using hc 0 _ 1 _ rfl rfl, by simpa using hc 1 _ 0 _ rfl rfl, by simpa using hc 1 _ 1 _ rfl rfl⟩, Below.trans hS (Below.mono hb hS.size)⟩))
  clear HKF
  have hS0 : SW wD wD := Below.refl _ _
  have y0 := FP0.out _ hS0
  have y1 := FP1.out _ hS0
  have q0 := FQ0.out _ hS0
  have q1 := FQ1.out _ hS0
  have q2 := FQ2.out _ hS0
  have q3 := FQ3.out _ hS0
  have q4 := FQ4.out _ hS0
  have q5 := FQ5.out _ hS0
  have g0 := FG0.out _ hS0
  have g1 := FG1.out _ hS0
  have g2 := FG2.out _ hS0
  have g3 := FG3.out _ hS0
  have g4 := FG4.out _ hS0
  have g5 := FG5.out _ hS0
  go_upto_region 5 with (go_at_call 23; refine KCh.out.mono ?_; rintro e w5 ⟨b4, o4, c4, rfl, ⟨r0, r1, r2, r3⟩, hb5⟩)
  have y0 := bel_cell hb5 y0
  have y1 := bel_cell hb5 y1
  have q0 := bel_cell hb5 q0
  have q1 := bel_cell hb5 q1
  have q2 := bel_cell hb5 q2
  have q3 := bel_cell hb5 q3
  have q4 := bel_cell hb5 q4
  have q5 := bel_cell hb5 q5
  have hS5 : SW wD _ := Below.trans hS0 (Below.mono hb5 hS0.size)
  clear KCh g0 g1 g2 g3 g4 g5 hb5 hS0
  go_upto_region 6 with (go_at_call 26; refine (KOn.out _ hS5).mono ?_; rintro e w6 ⟨X1, A3, c3, rfl, hX1, hb6⟩; have hst1 := store_fli hX1 w6; have hsz1 : X1.size = 6 := by rw [hX1.out]; rfl)
  clear hst1 hsz1
  have hb7 := bel_alloc w6 (.cells X1 fliT)
  generalize hw7 : w6.alloc (.cells X1 fliT) = w7 at *
  clear hw7
  have hb57 := hb6.trans (hb7.mono hb6.size)
  have y0 := bel_cell hb57 y0
  have y1 := bel_cell hb57 y1
  have q0 := bel_cell hb57 q0
  have q1 := bel_cell hb57 q1
  have q2 := bel_cell hb57 q2
  have q3 := bel_cell hb57 q3
  have q4 := bel_cell hb57 q4
  have q5 := bel_cell hb57 q5
  have r0 := bel_cell hb57 r0
  have r1 := bel_cell hb57 r1
  have r2 := bel_cell hb57 r2
  have r3 := bel_cell hb57 r3
  have hS7 : SW wD _ := Below.trans hS5 (Below.mono hb57 hS5.size)
  clear hb6 hb7 hb57 KOn hS5
  go_upto_region 7 with (go_at_call 28; refine (KS1.out _ hS7).mono ?_; rintro e w8 ⟨rfl, hb8⟩)
  have hba := bel_alloc w8 (.cells #[.string ⟨#[66, 65]⟩, .int .i64 117, .int .i64 9498, .string ⟨#[76, 72, 82]⟩, .string ⟨#[74, 70, 75]⟩, .int .i64 13677620, .int .i64 13678120] segT)
  have hxa := heap_alloc_new w8 (.cells #[.string ⟨#[66, 65]⟩, .int .i64 117, .int .i64 9498, .string ⟨#[76, 72, 82]⟩, .string ⟨#[74, 70, 75]⟩, .int .i64 13677620, .int .i64 13678120] segT)
  generalize hww : w8.alloc (.cells #[.string ⟨#[66, 65]⟩, .int .i64 117, .int .i64 9498, .string ⟨#[76, 72, 82]⟩, .string ⟨#[74, 70, 75]⟩, .int .i64 13677620, .int .i64 13678120] segT) = w9 at *
  clear hww
  have hbz := hb8.trans (hba.mono hb8.size)
  have y0 := bel_cell hbz y0
  have y1 := bel_cell hbz y1
  have q0 := bel_cell hbz q0
  have q1 := bel_cell hbz q1
  have q2 := bel_cell hbz q2
  have q3 := bel_cell hbz q3
  have q4 := bel_cell hbz q4
  have q5 := bel_cell hbz q5
  have r0 := bel_cell hbz r0
  have r1 := bel_cell hbz r1
  have r2 := bel_cell hbz r2
  have r3 := bel_cell hbz r3
  have hS9 : SW wD _ := Below.trans hS7 (Below.mono hbz hS7.size)
  have s0 := (cell_of_row w9 _ 0 _ _ (0, 0) hxa).trans (show _ = some (Value.string ⟨#[66, 65]⟩) from rfl)
  have s1 := (cell_of_row w9 _ 1 _ _ (0, 0) hxa).trans (show _ = some (Value.int .i64 117) from rfl)
  have s2 := (cell_of_row w9 _ 2 _ _ (0, 0) hxa).trans (show _ = some (Value.int .i64 9498) from rfl)
  have s3 := (cell_of_row w9 _ 3 _ _ (0, 0) hxa).trans (show _ = some (Value.string ⟨#[76, 72, 82]⟩) from rfl)
  have s4 := (cell_of_row w9 _ 4 _ _ (0, 0) hxa).trans (show _ = some (Value.string ⟨#[74, 70, 75]⟩) from rfl)
  have s5 := (cell_of_row w9 _ 5 _ _ (0, 0) hxa).trans (show _ = some (Value.int .i64 13677620) from rfl)
  have s6 := (cell_of_row w9 _ 6 _ _ (0, 0) hxa).trans (show _ = some (Value.int .i64 13678120) from rfl)
  clear hba hxa hbz hb8 KS1 hS7
  obtain ⟨a7, ha7⟩ : ∃ x, x = w8.heap.size := ⟨_, rfl⟩
  rw [← ha7] at s0 s1 s2 s3 s4 s5 s6 ⊢
  clear ha7
  go_upto_region 8 with (go_at_call 28; refine (KS2.out _ hS9).mono ?_; rintro e w10 ⟨rfl, hb10⟩)
  have hba := bel_alloc w10 (.cells #[.string noB, .int .i64 0, .int .i64 0, .string noB, .string noB, .int .i64 0, .int .i64 0] segT)
  have hxa := heap_alloc_new w10 (.cells #[.string noB, .int .i64 0, .int .i64 0, .string noB, .string noB, .int .i64 0, .int .i64 0] segT)
  generalize hww : w10.alloc (.cells #[.string noB, .int .i64 0, .int .i64 0, .string noB, .string noB, .int .i64 0, .int .i64 0] segT) = w11 at *
  clear hww
  have hbz := hb10.trans (hba.mono hb10.size)
  have y0 := bel_cell hbz y0
  have y1 := bel_cell hbz y1
  have q0 := bel_cell hbz q0
  have q1 := bel_cell hbz q1
  have q2 := bel_cell hbz q2
  have q3 := bel_cell hbz q3
  have q4 := bel_cell hbz q4
  have q5 := bel_cell hbz q5
  have r0 := bel_cell hbz r0
  have r1 := bel_cell hbz r1
  have r2 := bel_cell hbz r2
  have r3 := bel_cell hbz r3
  have s0 := bel_cell hbz s0
  have s1 := bel_cell hbz s1
  have s2 := bel_cell hbz s2
  have s3 := bel_cell hbz s3
  have s4 := bel_cell hbz s4
  have s5 := bel_cell hbz s5
  have s6 := bel_cell hbz s6
  have hS11 : SW wD _ := Below.trans hS9 (Below.mono hbz hS9.size)
  clear hba hxa hbz hb10 KS2 hS9
  go_upto_region 11 with fail
  have y0o := y0
  have y1o := y1
  have q0o := q0
  have q1o := q1
  have q2o := q2
  have q3o := q3
  have q4o := q4
  have q5o := q5
  have r0o := r0
  have r1o := r1
  have r2o := r2
  have r3o := r3
  have s0o := s0
  have s1o := s1
  have s2o := s2
  have s3o := s3
  have s4o := s4
  have s5o := s5
  have s6o := s6
  have hba := bel_alloc w11 (.cells #[.string ⟨#[66, 65]⟩, .int .i64 117, .int .i64 9498, .string ⟨#[76, 72, 82]⟩, .string ⟨#[74, 70, 75]⟩, .int .i64 13677620, .int .i64 13678120] segT)
  have hxa := heap_alloc_new w11 (.cells #[.string ⟨#[66, 65]⟩, .int .i64 117, .int .i64 9498, .string ⟨#[76, 72, 82]⟩, .string ⟨#[74, 70, 75]⟩, .int .i64 13677620, .int .i64 13678120] segT)
  generalize hww : w11.alloc (.cells #[.string ⟨#[66, 65]⟩, .int .i64 117, .int .i64 9498, .string ⟨#[76, 72, 82]⟩, .string ⟨#[74, 70, 75]⟩, .int .i64 13677620, .int .i64 13678120] segT) = w12 at *
  clear hww
  have hbz := (Below.refl w11.heap.size w11).trans (hba.mono (Below.refl w11.heap.size w11).size)
  have y0 := bel_cell hbz y0
  have y1 := bel_cell hbz y1
  have q0 := bel_cell hbz q0
  have q1 := bel_cell hbz q1
  have q2 := bel_cell hbz q2
  have q3 := bel_cell hbz q3
  have q4 := bel_cell hbz q4
  have q5 := bel_cell hbz q5
  have r0 := bel_cell hbz r0
  have r1 := bel_cell hbz r1
  have r2 := bel_cell hbz r2
  have r3 := bel_cell hbz r3
  have s0 := bel_cell hbz s0
  have s1 := bel_cell hbz s1
  have s2 := bel_cell hbz s2
  have s3 := bel_cell hbz s3
  have s4 := bel_cell hbz s4
  have s5 := bel_cell hbz s5
  have s6 := bel_cell hbz s6
  have hS12 : SW wD _ := Below.trans hS11 (Below.mono hbz hS11.size)
  have t0 := (cell_of_row w12 _ 0 _ _ (0, 0) hxa).trans (show _ = some (Value.string ⟨#[66, 65]⟩) from rfl)
  have t1 := (cell_of_row w12 _ 1 _ _ (0, 0) hxa).trans (show _ = some (Value.int .i64 117) from rfl)
  have t2 := (cell_of_row w12 _ 2 _ _ (0, 0) hxa).trans (show _ = some (Value.int .i64 9498) from rfl)
  have t3 := (cell_of_row w12 _ 3 _ _ (0, 0) hxa).trans (show _ = some (Value.string ⟨#[76, 72, 82]⟩) from rfl)
  have t4 := (cell_of_row w12 _ 4 _ _ (0, 0) hxa).trans (show _ = some (Value.string ⟨#[74, 70, 75]⟩) from rfl)
  have t5 := (cell_of_row w12 _ 5 _ _ (0, 0) hxa).trans (show _ = some (Value.int .i64 13677620) from rfl)
  have t6 := (cell_of_row w12 _ 6 _ _ (0, 0) hxa).trans (show _ = some (Value.int .i64 13678120) from rfl)
  have z5 := frozen_of_row w12 _ 5 _ _ hxa
  have hx13 := heap_setCell_same w12 w11.heap.size 5 _ segT (.int .i64 13677621) hxa
  have hbt := hba.trans ((But.setCell w12 w11.heap.size 5 (.int .i64 13677621)).below hba.size (fun k hk => by omega))
  clear hbz hS12
  go_upto_region 12 with fail
  generalize hw13 : w12.setCell ⟨w11.heap.size, 5, none⟩ (.int .i64 13677621) = w13 at *
  clear hw13
  have y0 := bel_cell hbt y0o
  have y1 := bel_cell hbt y1o
  have q0 := bel_cell hbt q0o
  have q1 := bel_cell hbt q1o
  have q2 := bel_cell hbt q2o
  have q3 := bel_cell hbt q3o
  have q4 := bel_cell hbt q4o
  have q5 := bel_cell hbt q5o
  have r0 := bel_cell hbt r0o
  have r1 := bel_cell hbt r1o
  have r2 := bel_cell hbt r2o
  have r3 := bel_cell hbt r3o
  have s0 := bel_cell hbt s0o
  have s1 := bel_cell hbt s1o
  have s2 := bel_cell hbt s2o
  have s3 := bel_cell hbt s3o
  have s4 := bel_cell hbt s4o
  have s5 := bel_cell hbt s5o
  have s6 := bel_cell hbt s6o
  have hS13 : SW wD w13 := Below.trans hS11 (Below.mono hbt hS11.size)
  have t0 := (cell_of_row w13 _ 0 _ _ (0, 0) hx13).trans (show _ = some (Value.string ⟨#[66, 65]⟩) from rfl)
  have t1 := (cell_of_row w13 _ 1 _ _ (0, 0) hx13).trans (show _ = some (Value.int .i64 117) from rfl)
  have t2 := (cell_of_row w13 _ 2 _ _ (0, 0) hx13).trans (show _ = some (Value.int .i64 9498) from rfl)
  have t3 := (cell_of_row w13 _ 3 _ _ (0, 0) hx13).trans (show _ = some (Value.string ⟨#[76, 72, 82]⟩) from rfl)
  have t4 := (cell_of_row w13 _ 4 _ _ (0, 0) hx13).trans (show _ = some (Value.string ⟨#[74, 70, 75]⟩) from rfl)
  have t5 := (cell_of_row w13 _ 5 _ _ (0, 0) hx13).trans (show _ = some (Value.int .i64 13677621) from rfl)
  have t6 := (cell_of_row w13 _ 6 _ _ (0, 0) hx13).trans (show _ = some (Value.int .i64 13678120) from rfl)
  obtain ⟨a11, ha11⟩ : ∃ x, x = w11.heap.size := ⟨_, rfl⟩
  rw [← ha11] at t0 t1 t2 t3 t4 t5 t6 ⊢
  clear ha11 hba hxa hx13 hbt z5 hS11 y0o y1o q0o q1o q2o q3o q4o q5o r0o r1o r2o r3o s0o s1o s2o s3o s4o s5o s6o
  go_upto_region 13 with (go_at_call 37; refine (KDf.out _ hS13).mono ?_; rintro e w14 ⟨b12, o12, c12, rfl, x0, hb14⟩)
  have y0 := bel_cell hb14 y0
  have y1 := bel_cell hb14 y1
  have q0 := bel_cell hb14 q0
  have q1 := bel_cell hb14 q1
  have q2 := bel_cell hb14 q2
  have q3 := bel_cell hb14 q3
  have q4 := bel_cell hb14 q4
  have q5 := bel_cell hb14 q5
  have r0 := bel_cell hb14 r0
  have r1 := bel_cell hb14 r1
  have r2 := bel_cell hb14 r2
  have r3 := bel_cell hb14 r3
  have s0 := bel_cell hb14 s0
  have s1 := bel_cell hb14 s1
  have s2 := bel_cell hb14 s2
  have s3 := bel_cell hb14 s3
  have s4 := bel_cell hb14 s4
  have s5 := bel_cell hb14 s5
  have s6 := bel_cell hb14 s6
  have t0 := bel_cell hb14 t0
  have t1 := bel_cell hb14 t1
  have t2 := bel_cell hb14 t2
  have t3 := bel_cell hb14 t3
  have t4 := bel_cell hb14 t4
  have t5 := bel_cell hb14 t5
  have t6 := bel_cell hb14 t6
  have hS14 : SW wD _ := Below.trans hS13 (Below.mono hb14 hS13.size)
  clear hb14 KDf hS13
  go_upto_region 14 with (go_at_call 31; refine (KDy.out _ hS14).mono ?_; rintro e w15 ⟨b13, o13, c13, rfl, d6, hb15⟩)
  have y0 := bel_cell hb15 y0
  have y1 := bel_cell hb15 y1
  have q0 := bel_cell hb15 q0
  have q1 := bel_cell hb15 q1
  have q2 := bel_cell hb15 q2
  have q3 := bel_cell hb15 q3
  have q4 := bel_cell hb15 q4
  have q5 := bel_cell hb15 q5
  have r0 := bel_cell hb15 r0
  have r1 := bel_cell hb15 r1
  have r2 := bel_cell hb15 r2
  have r3 := bel_cell hb15 r3
  have s0 := bel_cell hb15 s0
  have s1 := bel_cell hb15 s1
  have s2 := bel_cell hb15 s2
  have s3 := bel_cell hb15 s3
  have s4 := bel_cell hb15 s4
  have s5 := bel_cell hb15 s5
  have s6 := bel_cell hb15 s6
  have t0 := bel_cell hb15 t0
  have t1 := bel_cell hb15 t1
  have t2 := bel_cell hb15 t2
  have t3 := bel_cell hb15 t3
  have t4 := bel_cell hb15 t4
  have t5 := bel_cell hb15 t5
  have t6 := bel_cell hb15 t6
  have x0 := bel_cell hb15 x0
  have hS15 : SW wD _ := Below.trans hS14 (Below.mono hb15 hS14.size)
  clear hb15 KDy hS14
  have sa0 := bel_cell (bel_alloc w15 (.cells #[.string ⟨#[66, 65]⟩, .int .i64 117, .int .i64 9497, .int .i64 9499, .int .i64 127, .slice (some ⟨M, 0, none⟩) 1 1] fliT)) s0
  have sa1 := bel_cell (bel_alloc w15 (.cells #[.string ⟨#[66, 65]⟩, .int .i64 117, .int .i64 9497, .int .i64 9499, .int .i64 127, .slice (some ⟨M, 0, none⟩) 1 1] fliT)) s1
  have sa2 := bel_cell (bel_alloc w15 (.cells #[.string ⟨#[66, 65]⟩, .int .i64 117, .int .i64 9497, .int .i64 9499, .int .i64 127, .slice (some ⟨M, 0, none⟩) 1 1] fliT)) s2
  have sa3 := bel_cell (bel_alloc w15 (.cells #[.string ⟨#[66, 65]⟩, .int .i64 117, .int .i64 9497, .int .i64 9499, .int .i64 127, .slice (some ⟨M, 0, none⟩) 1 1] fliT)) s3
  have sa4 := bel_cell (bel_alloc w15 (.cells #[.string ⟨#[66, 65]⟩, .int .i64 117, .int .i64 9497, .int .i64 9499, .int .i64 127, .slice (some ⟨M, 0, none⟩) 1 1] fliT)) s4
  have sa5 := bel_cell (bel_alloc w15 (.cells #[.string ⟨#[66, 65]⟩, .int .i64 117, .int .i64 9497, .int .i64 9499, .int .i64 127, .slice (some ⟨M, 0, none⟩) 1 1] fliT)) s5
  have sa6 := bel_cell (bel_alloc w15 (.cells #[.string ⟨#[66, 65]⟩, .int .i64 117, .int .i64 9497, .int .i64 9499, .int .i64 127, .slice (some ⟨M, 0, none⟩) 1 1] fliT)) s6
  go_wp2_with (first
    | (go_at_call 33; refine (KO2.out _ hS16).mono ?_; rintro e w17 ⟨rfl, hb17⟩; have y0 := bel_cell hb17 y0; have y1 := bel_cell hb17 y1; have q0 := bel_cell hb17 q0; have q1 := bel_cell hb17 q1; have q2 := bel_cell hb17 q2; have q3 := bel_cell hb17 q3; have q4 := bel_cell hb17 q4; have q5 := bel_cell hb17 q5; have r0 := bel_cell hb17 r0; have r1 := bel_cell hb17 r1; have r2 := bel_cell hb17 r2; have r3 := bel_cell hb17 r3; have s0 := bel_cell hb17 s0; have s1 := bel_cell hb17 s1; have s2 := bel_cell hb17 s2; have s3 := bel_cell hb17 s3; have s4 := bel_cell hb17 s4; have s5 := bel_cell hb17 s5; have s6 := bel_cell hb17 s6; have t0 := bel_cell hb17 t0; have t1 := bel_cell hb17 t1; have t2 := bel_cell hb17 t2; have t3 := bel_cell hb17 t3; have t4 := bel_cell hb17 t4; have t5 := bel_cell hb17 t5; have t6 := bel_cell hb17 t6; have x0 := bel_cell hb17 x0; have d6 := bel_cell hb17 d6; have hS17 : SW wD w17 := Below.trans hS16 (Below.mono hb17 hS16.size))
    | (go_at_call 33; refine (KO1.out _ hS15).mono ?_; rintro e w16 ⟨rfl, hb16⟩; have y0 := bel_cell hb16 y0; have y1 := bel_cell hb16 y1; have q0 := bel_cell hb16 q0; have q1 := bel_cell hb16 q1; have q2 := bel_cell hb16 q2; have q3 := bel_cell hb16 q3; have q4 := bel_cell hb16 q4; have q5 := bel_cell hb16 q5; have r0 := bel_cell hb16 r0; have r1 := bel_cell hb16 r1; have r2 := bel_cell hb16 r2; have r3 := bel_cell hb16 r3; have s0 := bel_cell hb16 s0; have s1 := bel_cell hb16 s1; have s2 := bel_cell hb16 s2; have s3 := bel_cell hb16 s3; have s4 := bel_cell hb16 s4; have s5 := bel_cell hb16 s5; have s6 := bel_cell hb16 s6; have t0 := bel_cell hb16 t0; have t1 := bel_cell hb16 t1; have t2 := bel_cell hb16 t2; have t3 := bel_cell hb16 t3; have t4 := bel_cell hb16 t4; have t5 := bel_cell hb16 t5; have t6 := bel_cell hb16 t6; have x0 := bel_cell hb16 x0; have d6 := bel_cell hb16 d6; have hS16 : SW wD w16 := Below.trans hS15 (Below.mono hb16 hS15.size); have ta0 := bel_cell (bel_alloc w16 (.cells #[.string ⟨#[66, 65]⟩, .int .i64 117, .int .i64 9497, .int .i64 9499, .int .i64 127, .slice (some ⟨M, 0, none⟩) 1 1] fliT)) t0; have ta1 := bel_cell (bel_alloc w16 (.cells #[.string ⟨#[66, 65]⟩, .int .i64 117, .int .i64 9497, .int .i64 9499, .int .i64 127, .slice (some ⟨M, 0, none⟩) 1 1] fliT)) t1; have ta2 := bel_cell (bel_alloc w16 (.cells #[.string ⟨#[66, 65]⟩, .int .i64 117, .int .i64 9497, .int .i64 9499, .int .i64 127, .slice (some ⟨M, 0, none⟩) 1 1] fliT)) t2; have ta3 := bel_cell (bel_alloc w16 (.cells #[.string ⟨#[66, 65]⟩, .int .i64 117, .int .i64 9497, .int .i64 9499, .int .i64 127, .slice (some ⟨M, 0, none⟩) 1 1] fliT)) t3; have ta4 := bel_cell (bel_alloc w16 (.cells #[.string ⟨#[66, 65]⟩, .int .i64 117, .int .i64 9497, .int .i64 9499, .int .i64 127, .slice (some ⟨M, 0, none⟩) 1 1] fliT)) t4; have ta5 := bel_cell (bel_alloc w16 (.cells #[.string ⟨#[66, 65]⟩, .int .i64 117, .int .i64 9497, .int .i64 9499, .int .i64 127, .slice (some ⟨M, 0, none⟩) 1 1] fliT)) t5; have ta6 := bel_cell (bel_alloc w16 (.cells #[.string ⟨#[66, 65]⟩, .int .i64 117, .int .i64 9497, .int .i64 9499, .int .i64 127, .slice (some ⟨M, 0, none⟩) 1 1] fliT)) t6))
  go_ret
  exact ⟨rfl, HBD.out.trans (Below.mono hS17 HBD.out.size)⟩

end Go.Proofs.YtldillnjnjkkgaaGreatDoor

/- Walk of the reference's Differ. -/
namespace Go.Proofs.YtldillnjnjkkgaaGreatDoor
open Go.RowKit Go.Shelf
set_option linter.unusedSimpArgs false
set_option linter.unusedVariables false

set_option maxRecDepth 100000 in
set_option maxHeartbeats 8000000 in
theorem rdiffer_any (u v : Value) (a b : List FV) (car : ByteArray) (num : Int) (q : Int × Int × Int) (w : World) (ha : TblL w u a) (hb : TblL w v b) (la : a.length ≤ 1000) (lb : b.length ≤ 1000) (na : ∀ f ∈ a, f.lg.length ≤ 1000) (nb : ∀ f ∈ b, f.lg.length ≤ 1000)
    (hq0 : -9223372036854775808 ≤ q.1) (hq1 : q.1 ≤ 9223372036854775807) :
    Calls Tryz.prog 38 #[u, v, .string car, .int .i64 num, .agg #[.int .i64 q.1, .int .i64 q.2.1, .int .i64 q.2.2]] w fun e w' => ∃ r, e = .returned r ∧ RowL 1 encI1 w' r (difL a b car num (Per.daysQ q)) ∧ Below w.heap.size w w' := by
  obtain ⟨qf, qt, qd⟩ := q
  dsimp only at *
  have hb0 := bel_alloc w (.cells #[.int .i64 qf, .int .i64 qt, .int .i64 qd] 23)
  have q0 := (cells_new w #[.int .i64 qf, .int .i64 qt, .int .i64 qd] 23 0).trans (show _ = some (Value.int .i64 qf) from rfl)
  have q1 := (cells_new w #[.int .i64 qf, .int .i64 qt, .int .i64 qd] 23 1).trans (show _ = some (Value.int .i64 qt) from rfl)
  have q2 := (cells_new w #[.int .i64 qf, .int .i64 qt, .int .i64 qd] 23 2).trans (show _ = some (Value.int .i64 qd) from rfl)
  have HA := Lib.hid (ha.more hb0)
  have HB := Lib.hid (hb.more hb0)
  have HB0 := Lib.hid hb0
  obtain ⟨D, hD⟩ : ∃ D, D = Per.daysQ (qf, qt, qd) := ⟨_, rfl⟩
  have HBD : Hid (∀ d ∈ D, 0 ≤ d ∧ d < 36525) := Lib.hid (by rw [hD]; exact fun d => days_bd)
  have hDl : D.length ≤ 800 := by rw [hD]; exact Per.daysQ_len _
  have KD : Hid (∀ W, Calls Tryz.prog 100 #[.agg #[.int .i64 qf, .int .i64 qt, .int .i64 qd]] W fun e w' => ∃ v, e = .returned v ∧ Per.IntL w' v (Per.daysQ (qf, qt, qd)) ∧ Below W.heap.size W w') := Lib.hid (fun W => Per.rdays_any qf qt qd W hq0 hq1)
  rw [← hD] at KD
  rw [← hD]
  have KOA := Lib.hid (fun d W (h : TblL W u a) (h0 : 0 ≤ d ∧ d < 36525) => ron_x u a car num d W h la na (by omega) (by omega))
  have KOB := Lib.hid (fun d W (h : TblL W v b) (h0 : 0 ≤ d ∧ d < 36525) => ron_x v b car num d W h lb nb (by omega) (by omega))
  have NA := Lib.hid (fun d => on_lg (car := car) (num := num) (day := d) na)
  have NB := Lib.hid (fun d => on_lg (car := car) (num := num) (day := d) nb)
  clear hD ha hb na nb hb0 hq0 hq1
  go_enter Tryz.func38, Tryz.ntmps38
  go_upto_region 1 with fail
  generalize w.alloc (.cells #[.int .i64 qf, .int .i64 qt, .int .i64 qd] 23) = w5 at *
  go_wp2_with (go_at_call 100; refine (KD.out _).mono ?_; rintro e w2 ⟨v2, rfl, hI, hbd⟩; obtain ⟨A2, c2, rfl, _⟩ := id hI)
  have HI := Lib.hid hI
  have hB2 : Below w.heap.size w w2 := HB0.out.trans (hbd.mono HB0.out.size)
  have HB2 := Lib.hid hB2
  have HAA := Lib.hid (HA.out.more hbd)
  have HBB := Lib.hid (HB.out.more hbd)
  have hwl : w.heap.size ≤ w2.heap.size := hB2.size
  clear q0 q1 q2 hI KD hB2 hbd HB0 HA HB
  go_loopw [11, 13] (fun v0 vi wr => ∃ k : Nat, k ≤ D.length ∧ vi = .int .i64 k ∧ Hid (ROwn intT 1 encI1 w2.heap.size wr v0 (difL a b car num (D.take k)) ∧ Below w2.heap.size w2 wr)) (fun _ vi _ => D.length - (intOf vi).toNat)
  case atStart => exact ⟨0, Nat.zero_le _, rfl, Lib.hid ⟨ROwn.nil (Nat.le_refl _), Below.refl _ _⟩⟩
  case round =>
    obtain ⟨k, hk, rfl, HK⟩ := hrel
    by_cases hlt : k < D.length
    · obtain ⟨d, hd⟩ : ∃ d, D[k]? = some d := ⟨_, List.getElem?_eq_getElem hlt⟩
      have i2 : (k : Int) < (D.length : Int) := by omega
      obtain ⟨hO, hbk⟩ := HK.out
      have hIk : Per.IntL wr (.slice A2 D.length c2) D := HI.out.more hbk
      obtain ⟨b2, o2, rfl, hb2, hc2⟩ := IntL.at1 hIk hlt
      have hd0 := (hc2 k hlt).trans (congrArg (fun x => some (Value.int .i64 x)) (List.getElem?_eq_some_iff.1 hd).2)
      have hdb := HBD.out d (List.mem_of_getElem? hd)
      have HD := Lib.hid (difL_take a b car num D hd)
      have HDB : Hid (0 ≤ d ∧ d < 36525) := Lib.hid hdb
      have HLN : Hid ((difL a b car num (D.take k)).length ≤ 100000000) := Lib.hid (Nat.le_trans (difL_le _ _ _ _ _) (by simp; omega))
      have HI2 : Hid (∀ W, Below wr.heap.size wr W → W.cell? ⟨b2, o2 + k, none⟩ = some (.int .i64 d)) := Lib.hid (fun W h => bel_cell h hd0)
      obtain ⟨g1, hg1⟩ : ∃ g, g = (onF a car num d).getD fliZ := ⟨_, rfl⟩
      obtain ⟨s1, hs1⟩ : ∃ s, s = (onF a car num d).isSome := ⟨_, rfl⟩
      obtain ⟨g2, hg2⟩ : ∃ g, g = (onF b car num d).getD fliZ := ⟨_, rfl⟩
      obtain ⟨s2, hs2⟩ : ∃ s, s = (onF b car num d).isSome := ⟨_, rfl⟩
      have CA := Lib.hid (fun W (h : Below w2.heap.size w2 W) => KOA.out d W (HAA.out.more h) HDB.out)
      have CB := Lib.hid (fun W (h : Below w2.heap.size w2 W) => KOB.out d W (HBB.out.more h) HDB.out)
      have N1 := Lib.hid (NA.out d)
      have N2 := Lib.hid (NB.out d)
      have HDF : Hid (difB a b car num d = ((!(s1 == s2)) || !(sameL g1.lg g2.lg))) := Lib.hid (by rw [hg1, hg2, hs1, hs2]; rfl)
      rw [← hg1] at CA N1
      rw [← hs1] at CA
      rw [← hg2] at CB N2
      rw [← hs2] at CB
      clear hd hdb hIk hc2 hg1 hs1 hg2 hs2
      have HO := Lib.hid hO
      have HBK := Lib.hid hbk
      clear hO hbk HK
      go_upto_region 7 with (go_at_call 27; refine (CA.out _ HBK.out).mono ?_; rintro e w3 ⟨X1, A3, c3, rfl, hX1, hL1, hb3⟩; have hst1 := store_fli hX1 w3; have hsz1 : X1.size = 6 := by rw [hX1.out]; rfl)
      clear hst1 hsz1
      have hb4 := bel_alloc w3 (.cells X1 fliT)
      have hn5 := ((cells_new w3 X1 fliT 5).trans (show X1[5]? = some (Value.slice A3 g1.lg.length c3) by rw [hX1.out]; rfl))
      generalize hw4 : w3.alloc (.cells X1 fliT) = w4 at *
      clear hw4
      have hr4 := hb3.trans (hb4.mono hb3.size)
      have H4 := Lib.hid (HBK.out.trans (hr4.mono HBK.out.size))
      have hd0 := HI2.out _ hr4
      have HL1 := Lib.hid (hL1.more hb4)
      have HR4 := Lib.hid hr4
      have h3r : w2.heap.size ≤ w3.heap.size := Nat.le_trans HBK.out.size hb3.size
      clear hL1 hb3 hb4 hr4
      go_upto_region 8 with (go_at_call 27; refine (CB.out _ H4.out).mono ?_; rintro e w6 ⟨X2, A6, c6, rfl, hX2, hL2, hb6⟩; have hst2 := store_fli hX2 w6; have hsz2 : X2.size = 6 := by rw [hX2.out]; rfl)
      clear hst2 hsz2
      have hb7 := bel_alloc w6 (.cells X2 fliT)
      have hm5 := ((cells_new w6 X2 fliT 5).trans (show X2[5]? = some (Value.slice A6 g2.lg.length c6) by rw [hX2.out]; rfl))
      have hb67 := hb6.trans (hb7.mono hb6.size)
      have hn5 := bel_cell hb67 hn5
      generalize hw7 : w6.alloc (.cells X2 fliT) = w7 at *
      clear hw7
      have HR7 := Lib.hid (HR4.out.trans (hb67.mono HR4.out.size))
      have H7 := Lib.hid (H4.out.trans (hb67.mono H4.out.size))
      have hd0 := HI2.out _ HR7.out
      have KE := Lib.hid (sameLegs_any _ _ g1.lg g2.lg w7 (HL1.out.more hb67) (hL2.more hb7) N1.out N2.out)
      clear hL2 hb6 hb7 hb67
      cases hdf : difB a b car num d with
      | false =>
        have HD2 : Hid (difL a b car num (D.take (k + 1)) = difL a b car num (D.take k)) := Lib.hid (by rw [HD.out, if_neg (by rw [hdf]; simp)])
        have h3 := HDF.out
        rw [hdf] at h3
        have h4 : (s1 == s2) = true ∧ sameL g1.lg g2.lg = true := by cases h5 : (s1 == s2) <;> cases h6 : sameL g1.lg g2.lg <;> rw [h5, h6] at h3 <;> simp at h3 ⊢
        obtain ⟨h5, h6⟩ := h4
        rw [h6] at KE
        clear hdf h3 h6
        go_wp2_with (go_at_call 73; refine KE.out.mono ?_; rintro e w8 ⟨rfl, hb8⟩)
        go_roundw
        case rel => exact ⟨k + 1, by omega, by go_num, Lib.hid ⟨by rw [HD2.out]; exact HO.out.more (HR7.out.trans (hb8.mono HR7.out.size)), H7.out.trans (hb8.mono H7.out.size)⟩⟩
        case measure => simp [intOf]; omega
      | true =>
        have HD2 : Hid (difL a b car num (D.take (k + 1)) = difL a b car num (D.take k) ++ [d]) := Lib.hid (by rw [HD.out, if_pos hdf])
        have h3 := HDF.out
        rw [hdf] at h3
        clear hdf
        cases h5 : (s1 == s2) with
        | false =>
          clear h3 KE
          go_wp2_with (at_builtin; refine wpList_rapp rtI1 rfl _ _ rfl HO.out rfl (HR7.out.trans ((bel_alloc _ _).mono HR7.out.size)) _ d _ rfl (cs := #[.int .i64 d]) rfl (heap_alloc_new _ _) HLN.out ?_; intro v8 w8 hO8 hC8)
          go_roundw
          case rel => exact ⟨k + 1, by omega, by go_num, Lib.hid ⟨by rw [HD2.out]; exact hO8, HBK.out.trans (hC8.below HO.out)⟩⟩
          case measure => simp [intOf]; omega
        | true =>
          have h6 : sameL g1.lg g2.lg = false := by cases h6 : sameL g1.lg g2.lg <;> rw [h5, h6] at h3 <;> simp at h3 ⊢
          rw [h6] at KE
          clear h3 h6
          go_wp2_with (first
            | (at_builtin; refine wpList_rapp rtI1 rfl _ _ rfl HO.out rfl (HR8.out.trans ((bel_alloc _ _).mono HR8.out.size)) _ d _ rfl (cs := #[.int .i64 d]) rfl (heap_alloc_new _ _) HLN.out ?_; intro v8 w9 hO8 hC8)
            | (go_at_call 73; refine KE.out.mono ?_; rintro e w8 ⟨rfl, hb8⟩; have HR8 := Lib.hid (HR7.out.trans (hb8.mono HR7.out.size)); have hd0 := HI2.out _ HR8.out))
          go_roundw
          case rel => exact ⟨k + 1, by omega, by go_num, Lib.hid ⟨by rw [HD2.out]; exact hO8, HBK.out.trans (hC8.below HO.out)⟩⟩
          case measure => simp [intOf]; omega
    · have hk' : k = D.length := by omega
      have i2 : ¬ (k : Int) < (D.length : Int) := by omega
      obtain ⟨hO, hbk⟩ := HK.out
      rw [hk', List.take_length] at hO
      clear hk'
      go_wp2
      go_ret
      exact ⟨_, rfl, hO.rowL rtI1.len, HB2.out.trans (hbk.mono HB2.out.size)⟩

end Go.Proofs.YtldillnjnjkkgaaGreatDoor
