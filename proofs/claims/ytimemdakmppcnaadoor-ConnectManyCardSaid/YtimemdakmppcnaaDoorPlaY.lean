/- Walk of the reference's City. -/
import Derived.Test.YtimemdakmppcnaaDoorPlaR
namespace Go.Proofs.YtimemdakmppcnaaDoor
open Go.RowKit Go.Shelf
set_option linter.unusedSimpArgs false
set_option linter.unusedVariables false

set_option maxRecDepth 100000 in
set_option maxHeartbeats 4000000 in
theorem rcity_any (p : PV) (s : ByteArray) (w : World) (hl : p.l.length ≤ 40) (hL : AirL w p.A p.l) :
    Calls Tryd.prog 59 #[encP p, .string s] w fun e w' => e = .returned (.string (cityP p.l s)) ∧ Below w.heap.size w w' := by
  obtain ⟨A, ca, l, D, cd, ds⟩ := p
  dsimp only at *
  have hb0 := bel_alloc w (.cells #[.slice A l.length ca, .slice D ds.length cd] placesT)
  have p0 := cells_new w #[.slice A l.length ca, .slice D ds.length cd] placesT 0
  have p1 := cells_new w #[.slice A l.length ca, .slice D ds.length cd] placesT 1
  simp only [List.getElem?_toArray, List.getElem?_cons_zero, List.getElem?_cons_succ] at p0 p1
  have hL5 := hL.more hb0
  go_enter Tryd.func59, Tryd.ntmps59
  generalize hw5 : w.alloc (.cells #[.slice A l.length ca, .slice D ds.length cd] placesT) = w5 at *
  have f0 := bel_get p0
  have f1 := bel_get p1
  have hS : SW w5 w5 := Below.refl _ _
  have CC : Hid (∀ W, SW w5 W → Calls Tryd.prog 23 #[.agg #[.slice A l.length ca, .slice D ds.length cd], .string s] W fun e w' => e = .returned (.tuple #[encA ((findC l s).getD airZ), .bool (findC l s).isSome]) ∧ SW w5 w') := Lib.hid (SW.call (w5 := w5) (fun W h => rfind_any ⟨A, ca, l, D, cd, ds⟩ s W hl (hL5.more h)))
  have CT : Hid (∀ W, SW w5 W → Calls Tryd.prog 55 #[.agg #[.slice A l.length ca, .slice D ds.length cd], .string s] W fun e w' => e = .returned (.tuple #[encA ((findT l s).getD airZ), .bool (findT l s).isSome]) ∧ SW w5 w') := Lib.hid (SW.call (w5 := w5) (fun W h => rtown_any ⟨A, ca, l, D, cd, ds⟩ s W hl (hL5.more h)))
  cases h1 : findC l s with
  | some a =>
    have HR : Hid (cityP l s = a.city) := Lib.hid (by simp [cityP, h1])
    rw [h1] at CC
    simp only [Option.getD_some, Option.isSome_some, encA] at CC
    clear hL hL5 CT h1
    go_wp2_with (go_at_call 23; with_reducible refine (CC.out _ hS).mono ?_; rintro e w1 ⟨rfl, hS⟩; have x0 := f0 _ hS; have x1 := f1 _ hS)
    go_ret
    exact ⟨by rw [HR.out]; rfl, hb0.trans (Below.mono (Below.alloc hS hS.size _) hb0.size)⟩
  | none =>
    rw [h1] at CC
    simp only [Option.getD_none, Option.isSome_none, encA, airZ, List.length_nil] at CC
    cases h2 : findT l s with
    | some a =>
      have HR : Hid (cityP l s = s) := Lib.hid (by simp [cityP, h1, h2])
      rw [h2] at CT
      simp only [Option.getD_some, Option.isSome_some, encA] at CT
      clear hL hL5 h1 h2
      go_wp2_with (first
        | (go_at_call 55; refine (CT.out _ (Below.alloc hS hS.size _)).mono ?_; rintro e w2 ⟨rfl, hS2⟩)
        | (go_at_call 23; with_reducible refine (CC.out _ hS).mono ?_; rintro e w1 ⟨rfl, hS⟩; have x0 := f0 _ hS; have x1 := f1 _ hS; have x2 := f0 _ (Below.alloc hS hS.size (.cells #[.string noB, .string noB, .string noB, .int .i64 0, .slice none 0 0] airT)); have x3 := f1 _ (Below.alloc hS hS.size (.cells #[.string noB, .string noB, .string noB, .int .i64 0, .slice none 0 0] airT))))
      go_ret
      exact ⟨by rw [HR.out]; rfl, hb0.trans (Below.mono hS2 hb0.size)⟩
    | none =>
      have HR : Hid (cityP l s = noB) := Lib.hid (by simp [cityP, h1, h2])
      rw [h2] at CT
      simp only [Option.getD_none, Option.isSome_none, encA, airZ, List.length_nil] at CT
      clear hL hL5 h1 h2
      go_wp2_with (first
        | (go_at_call 55; refine (CT.out _ (Below.alloc hS hS.size _)).mono ?_; rintro e w2 ⟨rfl, hS2⟩)
        | (go_at_call 23; with_reducible refine (CC.out _ hS).mono ?_; rintro e w1 ⟨rfl, hS⟩; have x0 := f0 _ hS; have x1 := f1 _ hS; have x2 := f0 _ (Below.alloc hS hS.size (.cells #[.string noB, .string noB, .string noB, .int .i64 0, .slice none 0 0] airT)); have x3 := f1 _ (Below.alloc hS hS.size (.cells #[.string noB, .string noB, .string noB, .int .i64 0, .slice none 0 0] airT))))
      go_ret
      exact ⟨by rw [HR.out]; rfl, hb0.trans (Below.mono hS2 hb0.size)⟩

end Go.Proofs.YtimemdakmppcnaaDoor
