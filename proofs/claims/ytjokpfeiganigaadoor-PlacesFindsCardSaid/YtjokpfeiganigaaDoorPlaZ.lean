/- Walk of the reference's Country. -/
import Derived.Test.YtjokpfeiganigaaDoorPlaY
namespace Go.Proofs.YtjokpfeiganigaaDoor
open Go.RowKit Go.Shelf
set_option linter.unusedSimpArgs false
set_option linter.unusedVariables false

set_option maxRecDepth 100000 in
set_option maxHeartbeats 4000000 in
theorem rcountry_any (p : PV) (s : ByteArray) (w : World) (hl : p.l.length ≤ 40) (hL : AirL w p.A p.l) :
    Calls Tryd.prog 21 #[encP p, .string s] w fun e w' => e = .returned (.string (landP p.l s)) ∧ Below w.heap.size w w' := by
  obtain ⟨A, ca, l, D, cd, ds⟩ := p
  dsimp only at *
  have hb0 := bel_alloc w (.cells #[.slice A l.length ca, .slice D ds.length cd] placesT)
  have p0 := cells_new w #[.slice A l.length ca, .slice D ds.length cd] placesT 0
  have p1 := cells_new w #[.slice A l.length ca, .slice D ds.length cd] placesT 1
  simp only [List.getElem?_toArray, List.getElem?_cons_zero, List.getElem?_cons_succ] at p0 p1
  have hL5 := hL.more hb0
  go_enter Tryd.func21, Tryd.ntmps21
  generalize hw5 : w.alloc (.cells #[.slice A l.length ca, .slice D ds.length cd] placesT) = w5 at *
  have f0 := bel_get p0
  have f1 := bel_get p1
  have hS : SW w5 w5 := Below.refl _ _
  have CC : Hid (∀ W, SW w5 W → Calls Tryd.prog 16 #[.agg #[.slice A l.length ca, .slice D ds.length cd], .string s] W fun e w' => e = .returned (.tuple #[encA ((findC l s).getD airZ), .bool (findC l s).isSome]) ∧ SW w5 w') := Lib.hid (SW.call (w5 := w5) (fun W h => rfind_any ⟨A, ca, l, D, cd, ds⟩ s W hl (hL5.more h)))
  have CT : Hid (∀ W, SW w5 W → Calls Tryd.prog 41 #[.agg #[.slice A l.length ca, .slice D ds.length cd], .string s] W fun e w' => e = .returned (.tuple #[encA ((findT l s).getD airZ), .bool (findT l s).isSome]) ∧ Below W.heap.size W w') := Lib.hid (fun W h => rtown_any ⟨A, ca, l, D, cd, ds⟩ s W hl (hL5.more h))
  cases h1 : findC l s with
  | some a =>
    have HR : Hid (landP l s = a.land) := Lib.hid (by simp [landP, h1])
    rw [h1] at CC
    simp only [Option.getD_some, Option.isSome_some, encA] at CC
    clear hL hL5 CT h1
    go_wp2_with (go_at_call 16; with_reducible refine (CC.out _ hS).mono ?_; rintro e w1 ⟨rfl, hS⟩; have x0 := f0 _ hS; have x1 := f1 _ hS)
    go_ret
    exact ⟨by rw [HR.out]; rfl, hb0.trans (Below.mono (Below.alloc hS hS.size _) hb0.size)⟩
  | none =>
    rw [h1] at CC
    simp only [Option.getD_none, Option.isSome_none, encA, airZ, List.length_nil] at CC
    cases h2 : findT l s with
    | some a =>
      have HR : Hid (landP l s = a.land) := Lib.hid (by simp [landP, h1, h2])
      rw [h2] at CT
      simp only [Option.getD_some, Option.isSome_some, encA] at CT
      clear hL hL5 h1 h2
      go_wp2_with (first
        | (go_at_call 41; refine (CT.out _ (Below.alloc hS hS.size _)).mono ?_; rintro e w2 ⟨rfl, hb2⟩; refine Hid.out ?_)
        | (go_at_call 16; with_reducible refine (CC.out _ hS).mono ?_; rintro e w1 ⟨rfl, hS⟩; have x0 := f0 _ hS; have x1 := f1 _ hS; have x2 := f0 _ (Below.alloc hS hS.size (.cells #[.string noB, .string noB, .string noB, .int .i64 0, .slice none 0 0] airT)); have x3 := f1 _ (Below.alloc hS hS.size (.cells #[.string noB, .string noB, .string noB, .int .i64 0, .slice none 0 0] airT))))
      have hw1 := hS.size
      have hM := heap_alloc_new w1 (.cells #[.string noB, .string noB, .string noB, .int .i64 0, .slice none 0 0] airT)
      have hM2 := (hb2.block _ (show w1.heap.size < (w1.alloc (.cells #[.string noB, .string noB, .string noB, .int .i64 0, .slice none 0 0] airT)).heap.size by simp)).trans hM
      have n0 := (cell_of_row w2 _ 0 _ _ (0, 0) hM2).trans (show _ = some _ from rfl)
      have n1 := (cell_of_row w2 _ 1 _ _ (0, 0) hM2).trans (show _ = some _ from rfl)
      have n2 := (cell_of_row w2 _ 2 _ _ (0, 0) hM2).trans (show _ = some _ from rfl)
      have n3 := (cell_of_row w2 _ 3 _ _ (0, 0) hM2).trans (show _ = some _ from rfl)
      have n4 := (cell_of_row w2 _ 4 _ _ (0, 0) hM2).trans (show _ = some _ from rfl)
      have z0 := frozen_of_row w2 _ 0 _ _ hM2
      have z1 := frozen_of_row w2 _ 1 _ _ hM2
      have z2 := frozen_of_row w2 _ 2 _ _ hM2
      have z3 := frozen_of_row w2 _ 3 _ _ hM2
      have z4 := frozen_of_row w2 _ 4 _ _ hM2
      have hx := S5.heap hM2 (.string a.code) (.string a.city) (.string a.land) (.int .i64 a.off) (.slice a.A a.shs.length a.c)
      have c2 := (cell_of_row _ _ 2 _ _ (0, 0) hx).trans (show _ = some _ from rfl)
      have hbA : Below w5.heap.size w5 w2 := Below.trans (Below.alloc hS hS.size (.cells #[.string noB, .string noB, .string noB, .int .i64 0, .slice none 0 0] airT)) (hb2.mono (Below.alloc hS hS.size (.cells #[.string noB, .string noB, .string noB, .int .i64 0, .slice none 0 0] airT)).size)
      have hbS : Below w.heap.size w (S5 w2 w1.heap.size (.string a.code) (.string a.city) (.string a.land) (.int .i64 a.off) (.slice a.A a.shs.length a.c)) := (hb0.trans (hbA.mono hb0.size)).trans ((S5.but w2 w1.heap.size (.string a.code) (.string a.city) (.string a.land) (.int .i64 a.off) (.slice a.A a.shs.length a.c)).below (Nat.le_trans hb0.size hbA.size) (fun k hk => by have := hb0.size; omega))
      unfold S5 at c2 hbS
      clear hx hM hM2 hbA
      refine Lib.hid ?_
      go_wp2
      go_ret
      exact ⟨by rw [HR.out]; rfl, hbS⟩
    | none =>
      have HR : Hid (landP l s = noB) := Lib.hid (by simp [landP, h1, h2])
      rw [h2] at CT
      simp only [Option.getD_none, Option.isSome_none, encA, airZ, List.length_nil] at CT
      clear hL hL5 h1 h2
      go_wp2_with (first
        | (go_at_call 41; refine (CT.out _ (Below.alloc hS hS.size _)).mono ?_; rintro e w2 ⟨rfl, hb2⟩; refine Hid.out ?_)
        | (go_at_call 16; with_reducible refine (CC.out _ hS).mono ?_; rintro e w1 ⟨rfl, hS⟩; have x0 := f0 _ hS; have x1 := f1 _ hS; have x2 := f0 _ (Below.alloc hS hS.size (.cells #[.string noB, .string noB, .string noB, .int .i64 0, .slice none 0 0] airT)); have x3 := f1 _ (Below.alloc hS hS.size (.cells #[.string noB, .string noB, .string noB, .int .i64 0, .slice none 0 0] airT))))
      have hw1 := hS.size
      have hM := heap_alloc_new w1 (.cells #[.string noB, .string noB, .string noB, .int .i64 0, .slice none 0 0] airT)
      have hM2 := (hb2.block _ (show w1.heap.size < (w1.alloc (.cells #[.string noB, .string noB, .string noB, .int .i64 0, .slice none 0 0] airT)).heap.size by simp)).trans hM
      have n0 := (cell_of_row w2 _ 0 _ _ (0, 0) hM2).trans (show _ = some _ from rfl)
      have n1 := (cell_of_row w2 _ 1 _ _ (0, 0) hM2).trans (show _ = some _ from rfl)
      have n2 := (cell_of_row w2 _ 2 _ _ (0, 0) hM2).trans (show _ = some _ from rfl)
      have n3 := (cell_of_row w2 _ 3 _ _ (0, 0) hM2).trans (show _ = some _ from rfl)
      have n4 := (cell_of_row w2 _ 4 _ _ (0, 0) hM2).trans (show _ = some _ from rfl)
      have z0 := frozen_of_row w2 _ 0 _ _ hM2
      have z1 := frozen_of_row w2 _ 1 _ _ hM2
      have z2 := frozen_of_row w2 _ 2 _ _ hM2
      have z3 := frozen_of_row w2 _ 3 _ _ hM2
      have z4 := frozen_of_row w2 _ 4 _ _ hM2
      have hx := S5.heap hM2 (.string noB) (.string noB) (.string noB) (.int .i64 0) (.slice none 0 0)
      have c2 := (cell_of_row _ _ 2 _ _ (0, 0) hx).trans (show _ = some _ from rfl)
      have hbA : Below w5.heap.size w5 w2 := Below.trans (Below.alloc hS hS.size (.cells #[.string noB, .string noB, .string noB, .int .i64 0, .slice none 0 0] airT)) (hb2.mono (Below.alloc hS hS.size (.cells #[.string noB, .string noB, .string noB, .int .i64 0, .slice none 0 0] airT)).size)
      have hbS : Below w.heap.size w (S5 w2 w1.heap.size (.string noB) (.string noB) (.string noB) (.int .i64 0) (.slice none 0 0)) := (hb0.trans (hbA.mono hb0.size)).trans ((S5.but w2 w1.heap.size (.string noB) (.string noB) (.string noB) (.int .i64 0) (.slice none 0 0)).below (Nat.le_trans hb0.size hbA.size) (fun k hk => by have := hb0.size; omega))
      unfold S5 at c2 hbS
      clear hx hM hM2 hbA
      refine Lib.hid ?_
      go_wp2
      go_ret
      exact ⟨by rw [HR.out]; rfl, hbS⟩

end Go.Proofs.YtjokpfeiganigaaDoor
