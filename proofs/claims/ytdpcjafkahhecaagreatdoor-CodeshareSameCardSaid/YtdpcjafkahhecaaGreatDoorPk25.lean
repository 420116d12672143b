/- Words and walks that the laws below ask: ShrY, ShrZ, SamF, Shr1, PlaN1, Shr2, Shr5. -/
import Derived.Test.YtdpcjafkahhecaaGreatDoorPk3
import Derived.Test.YtdpcjafkahhecaaGreatDoorPk7
import Derived.Test.YtdpcjafkahhecaaGreatDoorPk11
import Derived.Test.YtdpcjafkahhecaaGreatDoorPk14
import Derived.Test.YtdpcjafkahhecaaGreatDoorPk23
import Derived.Test.YtdpcjafkahhecaaGreatDoorPk24
/- What makes the examples of the law. -/
namespace Go.Proofs.YtdpcjafkahhecaaGreatDoor
open Go.RowKit Go.Shelf Go.Maps
set_option linter.unusedSimpArgs false
set_option linter.unusedVariables false

theorem e9_airL (w w' : World) (h : Below w.heap.size (w.alloc (.cells #[.string ⟨#[76, 72, 82]⟩, .string ⟨#[76, 79, 78]⟩, .string ⟨#[71, 66]⟩, .int .i64 0, .slice none 0 0, .string ⟨#[74, 70, 75]⟩, .string ⟨#[78, 89, 67]⟩, .string ⟨#[85, 83]⟩, .int .i64 (-300), .slice none 0 0] airT)) w') (hs : w.heap.size < w'.heap.size) (hc : ∀ j v, (w.alloc (.cells #[.string ⟨#[76, 72, 82]⟩, .string ⟨#[76, 79, 78]⟩, .string ⟨#[71, 66]⟩, .int .i64 0, .slice none 0 0, .string ⟨#[74, 70, 75]⟩, .string ⟨#[78, 89, 67]⟩, .string ⟨#[85, 83]⟩, .int .i64 (-300), .slice none 0 0] airT)).cell? ⟨w.heap.size, j, none⟩ = some v → w'.cell? ⟨w.heap.size, j, none⟩ = some v) : AirL w' (some ⟨w.heap.size, 0, none⟩) e9A := by
  refine .inr ⟨w.heap.size, 0, rfl, hs, fun i a hi => ?_⟩
  have hg : ∀ j v, (#[.string ⟨#[76, 72, 82]⟩, .string ⟨#[76, 79, 78]⟩, .string ⟨#[71, 66]⟩, .int .i64 0, .slice none 0 0, .string ⟨#[74, 70, 75]⟩, .string ⟨#[78, 89, 67]⟩, .string ⟨#[85, 83]⟩, .int .i64 (-300), .slice none 0 0] : Array Value)[j]? = some v → w'.cell? ⟨w.heap.size, j, none⟩ = some v := fun j v hv => hc j v ((cells_new w #[.string ⟨#[76, 72, 82]⟩, .string ⟨#[76, 79, 78]⟩, .string ⟨#[71, 66]⟩, .int .i64 0, .slice none 0 0, .string ⟨#[74, 70, 75]⟩, .string ⟨#[78, 89, 67]⟩, .string ⟨#[85, 83]⟩, .int .i64 (-300), .slice none 0 0] airT j).trans hv)
  have hlt := (List.getElem?_eq_some_iff.1 hi).1
  have h2 : i = 0 ∨ i = 1 := by simp [e9A] at hlt; omega
  rcases h2 with rfl | rfl
  · simp [e9A] at hi
    subst hi
    exact ⟨hg 0 _ rfl, hg 1 _ rfl, hg 2 _ rfl, hg 3 _ rfl, hg 4 _ rfl, .inl rfl⟩
  · simp [e9A] at hi
    subst hi
    exact ⟨hg 5 _ rfl, hg 6 _ rfl, hg 7 _ rfl, hg 8 _ rfl, hg 9 _ rfl, .inl rfl⟩
set_option maxRecDepth 100000 in
set_option maxHeartbeats 4000000 in
theorem places9_any (w : World) : Calls Tryz.prog 27 #[] w fun e w' => ∃ N X, e = .returned (.agg X) ∧ Hid (X = #[.slice (some ⟨N, 0, none⟩) 2 2, .slice none 0 0]) ∧ AirL w' (some ⟨N, 0, none⟩) e9A ∧ Below w.heap.size w w' := by
  have hb1 := bel_alloc w (.cells #[.slice (some ⟨w.heap.size + 1, 0, none⟩) 2 2, .slice none 0 0] placesT)
  have hb2 := bel_alloc (w.alloc (.cells #[.slice (some ⟨w.heap.size + 1, 0, none⟩) 2 2, .slice none 0 0] placesT)) (.cells #[.string ⟨#[76, 72, 82]⟩, .string ⟨#[76, 79, 78]⟩, .string ⟨#[71, 66]⟩, .int .i64 0, .slice none 0 0, .string ⟨#[74, 70, 75]⟩, .string ⟨#[78, 89, 67]⟩, .string ⟨#[85, 83]⟩, .int .i64 (-300), .slice none 0 0] airT)
  have hb0 := hb1.trans (hb2.mono hb1.size)
  have hx := heap_alloc_new w (.cells #[.slice (some ⟨w.heap.size + 1, 0, none⟩) 2 2, .slice none 0 0] placesT)
  have hx2 := (hb2.block _ (lt_of_cell2 hx)).trans hx
  have hA0 := e9_airL (w.alloc (.cells #[.slice (some ⟨w.heap.size + 1, 0, none⟩) 2 2, .slice none 0 0] placesT)) _ (Below.refl _ _) (by simp) (fun j v h => h)
  rw [World.size_alloc] at hA0
  have HA0 := Lib.hid hA0
  have HB0 := Lib.hid hb0
  have HX2 := Lib.hid hx2
  clear hx hx2 hA0 hb0 hb1 hb2
  go_enter Tryz.func27, Tryz.ntmps27
  go_wp2
  have hxx := HX2.out
  have hAA := HA0.out
  have hbb := HB0.out
  clear HX2 HA0 HB0
  generalize hWW : (w.alloc (.cells #[.slice (some ⟨w.heap.size + 1, 0, none⟩) 2 2, .slice none 0 0] placesT)).alloc (.cells #[.string ⟨#[76, 72, 82]⟩, .string ⟨#[76, 79, 78]⟩, .string ⟨#[71, 66]⟩, .int .i64 0, .slice none 0 0, .string ⟨#[74, 70, 75]⟩, .string ⟨#[78, 89, 67]⟩, .string ⟨#[85, 83]⟩, .int .i64 (-300), .slice none 0 0] airT) = WW at *
  clear hWW
  have c0 := (cell_of_row WW _ 0 _ _ (0, 0) hxx).trans (show _ = some _ from rfl)
  have c1 := (cell_of_row WW _ 1 _ _ (0, 0) hxx).trans (show _ = some _ from rfl)
  refine bodyPost_ret (v := .agg #[.slice (some ⟨w.heap.size + 1, 0, none⟩) 2 2, .slice none 0 0]) ?_ rfl ⟨w.heap.size + 1, _, rfl, Lib.hid rfl, hAA, hbb⟩
  simp [results, Tryz.results27, go_sem, c0, c1]
set_option maxRecDepth 100000 in
set_option maxHeartbeats 4000000 in
theorem flights9_any (w : World) : Calls Tryz.prog 28 #[] w fun e w' => ∃ N M, e = .returned (.slice (some ⟨N, 0, none⟩) 1 1) ∧ TblL w' (.slice (some ⟨N, 0, none⟩) 1 1) [e9F (some ⟨M, 0, none⟩) 1] ∧ Below w.heap.size w w' := by
  have hb1 := bel_alloc w (.cells #[.string ⟨#[76, 72, 82]⟩, .string ⟨#[74, 70, 75]⟩, .int .i64 600, .int .i64 780, .string ⟨#[55, 55, 55]⟩] legT)
  have hb2 := bel_alloc (w.alloc (.cells #[.string ⟨#[76, 72, 82]⟩, .string ⟨#[74, 70, 75]⟩, .int .i64 600, .int .i64 780, .string ⟨#[55, 55, 55]⟩] legT)) (.cells #[.string ⟨#[66, 65]⟩, .int .i64 2, .int .i64 9497, .int .i64 9506, .int .i64 127, .slice (some ⟨w.heap.size, 0, none⟩) 1 1] fliT)
  have hb0 := hb1.trans (hb2.mono hb1.size)
  have hG : LegL (w.alloc (.cells #[.string ⟨#[76, 72, 82]⟩, .string ⟨#[74, 70, 75]⟩, .int .i64 600, .int .i64 780, .string ⟨#[55, 55, 55]⟩] legT)) (.slice (some ⟨w.heap.size, 0, none⟩) 1 1) [e9G] := RowL.new (enc := encLg) (sz := 5) w [e9G] legT (fun _ => rfl) rfl 1
  have hR : RowL 6 encF6 ((w.alloc (.cells #[.string ⟨#[76, 72, 82]⟩, .string ⟨#[74, 70, 75]⟩, .int .i64 600, .int .i64 780, .string ⟨#[55, 55, 55]⟩] legT)).alloc (.cells #[.string ⟨#[66, 65]⟩, .int .i64 2, .int .i64 9497, .int .i64 9506, .int .i64 127, .slice (some ⟨w.heap.size, 0, none⟩) 1 1] fliT)) (.slice (some ⟨(w.alloc (.cells #[.string ⟨#[76, 72, 82]⟩, .string ⟨#[74, 70, 75]⟩, .int .i64 600, .int .i64 780, .string ⟨#[55, 55, 55]⟩] legT)).heap.size, 0, none⟩) 1 1) [e9F (some ⟨w.heap.size, 0, none⟩) 1] := RowL.new (enc := encF6) (sz := 6) _ [e9F (some ⟨w.heap.size, 0, none⟩) 1] fliT (fun _ => rfl) rfl 1
  rw [World.size_alloc] at hR
  have HT : Hid (TblL ((w.alloc (.cells #[.string ⟨#[76, 72, 82]⟩, .string ⟨#[74, 70, 75]⟩, .int .i64 600, .int .i64 780, .string ⟨#[55, 55, 55]⟩] legT)).alloc (.cells #[.string ⟨#[66, 65]⟩, .int .i64 2, .int .i64 9497, .int .i64 9506, .int .i64 127, .slice (some ⟨w.heap.size, 0, none⟩) 1 1] fliT)) (.slice (some ⟨w.heap.size + 1, 0, none⟩) 1 1) [e9F (some ⟨w.heap.size, 0, none⟩) 1]) := Lib.hid ⟨hR, fun f hf => by
    rw [List.mem_singleton] at hf
    subst hf
    exact hG.more hb2⟩
  have HB0 := Lib.hid hb0
  clear hb1 hb2 hb0 hG hR
  go_enter Tryz.func28, Tryz.ntmps28
  go_wp2
  go_ret
  exact ⟨_, _, rfl, HT.out, HB0.out⟩
set_option maxRecDepth 100000 in
set_option maxHeartbeats 4000000 in
theorem shares9_any (w : World) : Calls Tryz.prog 29 #[] w fun e w' => e = .returned (.slice (some ⟨w.heap.size, 0, none⟩) 1 1) ∧ w' = w.alloc (.cells #[.string ⟨#[65, 70]⟩, .int .i64 900, .int .i64 9497, .int .i64 9506, .int .i64 1, .string ⟨#[66, 65]⟩, .int .i64 2, .string ⟨#[76, 72, 82]⟩, .string ⟨#[74, 70, 75]⟩] shT) := by
  go_enter Tryz.func29, Tryz.ntmps29
  go_wp2
  go_ret
  exact ⟨rfl, rfl⟩
theorem shares9_row (w : World) : RowL 9 encSh9 (w.alloc (.cells #[.string ⟨#[65, 70]⟩, .int .i64 900, .int .i64 9497, .int .i64 9506, .int .i64 1, .string ⟨#[66, 65]⟩, .int .i64 2, .string ⟨#[76, 72, 82]⟩, .string ⟨#[74, 70, 75]⟩] shT)) (.slice (some ⟨w.heap.size, 0, none⟩) 1 1) [e9S 9506] := RowL.new (enc := encSh9) (sz := 9) w [e9S 9506] shT (fun _ => rfl) rfl 1
end Go.Proofs.YtdpcjafkahhecaaGreatDoor

/- Cover of the law's example. -/
namespace Go.Proofs.YtdpcjafkahhecaaGreatDoor
open Go.RowKit Go.Shelf Go.Maps
set_option linter.unusedSimpArgs false
set_option linter.unusedVariables false

def e9i : Idd := ⟨⟨#[66, 65]⟩, 2, 9501, ⟨#[76, 72, 82]⟩⟩
theorem e9_cov (R : List Dt) (h : CovR [e9d] e9o.f e9o.t R) : R = [e9d] := by
  rcases h with ⟨h1, h2⟩ | ⟨i, k, a, y, h1, h2, h3, h4, h5, h6, h7⟩
  · exfalso
    rcases h2 with h2 | ⟨i, a, h3, _, _, h2⟩
    · exact absurd (h2 e9d (List.mem_singleton.2 rfl)) (by decide +kernel)
    · have hi : i = 0 := by
        have := (List.getElem?_eq_some_iff.1 h3).1
        simp at this
        exact this
      subst hi
      exact absurd (h2 e9d (List.mem_singleton.2 rfl)) (by decide +kernel)
  · have hi : i = 0 := by
      have := (List.getElem?_eq_some_iff.1 h1).1
      simp at this
      exact this
    subst hi
    have hk : k = 0 := by
      have := (List.getElem?_eq_some_iff.1 h4).1
      simp at this
      exact this
    subst hk
    exact h7
theorem e9_cover (A : Option Addr) (c : Nat) (er : Int) (I : List Idd) (h : CvR (fun f e I => PathR e9A f (operF [e9S 9506] e9s) e I) [e9F A c] (operF [e9S 9506] e9s) er I) : er = 0 ∧ I = [e9i] := by
  rw [e9_oper] at h
  rcases h with ⟨h1, _⟩ | ⟨f, h1, h2⟩
  · rw [e9_on] at h1
    cases h1
  · rw [e9_on] at h1
    cases h1
    rcases h2 with ⟨h3 | h3, _⟩ | ⟨_, _, h3, _⟩ | ⟨_, _, _, R, h3, h4⟩
    · revert h3
      show (e9o.car.toList == e9o.car.toList) = false → _
      simp
    · exact absurd rfl h3
    · exact absurd (e9_legE A c) h3
    · rw [show e9o.day = 9501 from rfl, e9_legF] at h3
      obtain rfl := e9_cov R h3
      rcases h4 with ⟨h5, _⟩ | ⟨a, z, h5, h6, h7⟩
      · cases h5
      · cases h5
        cases h6
        rcases h7 with ⟨h8, _⟩ | ⟨_, _, h8, h9⟩
        · rcases h8 with h8 | h8 <;> exact absurd rfl h8
        · exact ⟨h8, h9⟩
end Go.Proofs.YtdpcjafkahhecaaGreatDoor

/- Walk of the reference's SameFaults. -/
namespace Go.Proofs.YtdpcjafkahhecaaGreatDoor
open Go.RowKit Go.Shelf
set_option linter.unusedSimpArgs false
set_option linter.unusedVariables false

end Go.Proofs.YtdpcjafkahhecaaGreatDoor

/- Walk of the law's examples. -/
namespace Go.Proofs.YtdpcjafkahhecaaGreatDoor
open Go.RowKit Go.Shelf Go.Maps
set_option linter.unusedSimpArgs false
set_option linter.unusedVariables false

/-- the arguments of the examples -/
structure Args9 (W : World) (N NF MF NS : Nat) : Prop where
  air : AirL W (some ⟨N, 0, none⟩) e9A
  tbl : TblL W (.slice (some ⟨NF, 0, none⟩) 1 1) [e9F (some ⟨MF, 0, none⟩) 1]
  row : RowL 9 encSh9 W (.slice (some ⟨NS, 0, none⟩) 1 1) [e9S 9506]
theorem find91_any {W : World} {N NF MF NS : Nat} (h : Args9 W N NF MF NS) : Calls Tryz.prog 13 #[.agg #[.slice (some ⟨N, 0, none⟩) 2 2, .slice none 0 0], .slice (some ⟨NF, 0, none⟩) 1 1, .slice (some ⟨NS, 0, none⟩) 1 1, .string ⟨#[65, 70]⟩, .int .i64 900, .int .i64 9501, .string ⟨#[76, 72, 82]⟩, .string ⟨#[74, 70, 75]⟩] W fun e w' => e = .returned (.tuple #[.agg #[.string ⟨#[65, 70]⟩, .int .i64 900, .int .i64 9501, .string ⟨#[76, 72, 82]⟩, .string ⟨#[74, 70, 75]⟩, .int .i64 13682040, .int .i64 13682520], .int .i64 0]) ∧ Below W.heap.size W w' := by
  have h1 := cfind_any (e9P N) (.slice (some ⟨NF, 0, none⟩) 1 1) [e9F (some ⟨MF, 0, none⟩) 1] (some ⟨NS, 0, none⟩) 1 [e9S 9506] ⟨#[65, 70]⟩ 900 9501 ⟨#[76, 72, 82]⟩ ⟨#[74, 70, 75]⟩ W (fun _ => e9_okP N) (e9_okT _ _) h.air h.tbl (by simp) h.row (by decide) (by decide)
  rw [show (e9P N).l = e9A from rfl, e9_find1] at h1
  exact h1
theorem find92_any {W : World} {N NF MF NS : Nat} (h : Args9 W N NF MF NS) : Calls Tryz.prog 13 #[.agg #[.slice (some ⟨N, 0, none⟩) 2 2, .slice none 0 0], .slice (some ⟨NF, 0, none⟩) 1 1, .slice (some ⟨NS, 0, none⟩) 1 1, .string ⟨#[65, 70]⟩, .int .i64 900, .int .i64 9502, .string ⟨#[76, 72, 82]⟩, .string ⟨#[74, 70, 75]⟩] W fun e w' => e = .returned (.tuple #[.agg #[.string noB, .int .i64 0, .int .i64 0, .string noB, .string noB, .int .i64 0, .int .i64 0], .int .i64 7]) ∧ Below W.heap.size W w' := by
  have h1 := cfind_any (e9P N) (.slice (some ⟨NF, 0, none⟩) 1 1) [e9F (some ⟨MF, 0, none⟩) 1] (some ⟨NS, 0, none⟩) 1 [e9S 9506] ⟨#[65, 70]⟩ 900 9502 ⟨#[76, 72, 82]⟩ ⟨#[74, 70, 75]⟩ W (fun _ => e9_okP N) (e9_okT _ _) h.air h.tbl (by simp) h.row (by decide) (by decide)
  rw [show (e9P N).l = e9A from rfl, e9_find2] at h1
  exact h1
theorem cover9_any {W : World} {N NF MF NS : Nat} (h : Args9 W N NF MF NS) : Calls Tryz.prog 20 #[.agg #[.slice (some ⟨N, 0, none⟩) 2 2, .slice none 0 0], .slice (some ⟨NF, 0, none⟩) 1 1, .slice (some ⟨NS, 0, none⟩) 1 1, .agg #[.string ⟨#[65, 70]⟩, .int .i64 900, .int .i64 9501, .string ⟨#[76, 72, 82]⟩, .string ⟨#[74, 70, 75]⟩, .int .i64 13682040, .int .i64 13682520]] W fun e w' => ∃ v, e = .returned (.tuple #[v, .int .i64 0]) ∧ RowL 4 encI w' v [e9i] ∧ Below W.heap.size W w' := by
  have h1 := ccover_any (e9P N) (.slice (some ⟨NF, 0, none⟩) 1 1) [e9F (some ⟨MF, 0, none⟩) 1] (some ⟨NS, 0, none⟩) 1 [e9S 9506] e9s W (fun _ => e9_okP N) (e9_okT _ _) (by
    intro f hf
    rw [List.mem_singleton] at hf
    subst hf
    show 1 ≤ [e9G].length
    decide) h.air h.tbl (by simp) h.row (by decide)
  refine Calls.mono h1 ?_
  rintro e w' ⟨v, er, I, rfl, h2, h3, h4⟩
  obtain ⟨rfl, rfl⟩ := e9_cover _ _ er I h3.out
  exact ⟨v, rfl, h2, h4⟩
theorem sold9_any {W : World} {N NF MF NS : Nat} (h : Args9 W N NF MF NS) : Calls Tryz.prog 18 #[.agg #[.slice (some ⟨N, 0, none⟩) 2 2, .slice none 0 0], .slice (some ⟨NF, 0, none⟩) 1 1, .slice (some ⟨NS, 0, none⟩) 1 1, .int .i64 9501] W fun e w' => ∃ A c, e = .returned (.slice A 2 c) ∧ Below W.heap.size W w' := by
  have h1 := csold_any (e9P N) (some ⟨NF, 0, none⟩) 1 [e9F (some ⟨MF, 0, none⟩) 1] (some ⟨NS, 0, none⟩) 1 [e9S 9506] 9501 W (fun _ => e9_okP N) (e9_okT _ _) h.air h.tbl (by simp) h.row (by decide) (by decide)
  refine Calls.mono h1 ?_
  rintro e w' ⟨v, rfl, h2, h4⟩
  obtain ⟨A, c, rfl, _⟩ := h2
  rw [show (e9P N).l = e9A from rfl, e9_sold]
  exact ⟨A, c, rfl, h4⟩
theorem check9_any {W : World} {N NF MF NS : Nat} (ub : Int) (hT : TblL W (.slice (some ⟨NF, 0, none⟩) 1 1) [e9F (some ⟨MF, 0, none⟩) 1]) (hR : RowL 9 encSh9 W (.slice (some ⟨NS, 0, none⟩) 1 1) [e9S ub]) : Calls Tryz.prog 11 #[.agg #[.slice (some ⟨N, 0, none⟩) 2 2, .slice none 0 0], .slice (some ⟨NF, 0, none⟩) 1 1, .slice (some ⟨NS, 0, none⟩) 1 1] W fun e w' => ∃ v, e = .returned v ∧ FOwn W.heap.size w' v (shrF [e9F (some ⟨MF, 0, none⟩) 1] [e9S ub] 1) ∧ Below W.heap.size W w' :=
  callsIn_wide.1 (ccheck_any (e9P N) (some ⟨NF, 0, none⟩) 1 [e9F (some ⟨MF, 0, none⟩) 1] (some ⟨NS, 0, none⟩) 1 [e9S ub] W (by simp) hT (by simp) hR (by
    intro f hf
    rw [List.mem_singleton] at hf
    subst hf
    exact ⟨⟨(by show 2 ≤ maxLen; decide), by show (Lit.int .i64 2).wf = true; decide⟩, by show [e9G].length ≤ 1000; decide, by show [e9G].length ≤ 1; decide⟩) (by
    intro s hs
    rw [List.mem_singleton] at hs
    subst hs
    exact ⟨⟨(by show 2 ≤ maxLen; decide), by show (Lit.int .i64 900).wf = true; decide⟩, by show 2 ≤ maxLen; decide, by show (Lit.int .i64 2).wf = true; decide⟩))
end Go.Proofs.YtdpcjafkahhecaaGreatDoor

/- Walks of the law's SameFaults and sameAirport. -/
namespace Go.Proofs.YtdpcjafkahhecaaGreatDoor
open Go.RowKit Go.Shelf
set_option linter.unusedSimpArgs false
set_option linter.unusedVariables false

set_option maxRecDepth 100000 in
set_option maxHeartbeats 4000000 in
/-- equal lists are found equal -/
theorem sameF_any (u v : Value) (l : List Flt) (w : World) (hu : FltL w u l) (hv : FltL w v l) (hl : l.length ≤ 1000000) :
    Calls Tryz.prog 10 #[u, v] w fun e w' => e = .returned (.bool true) ∧ Below w.heap.size w w' := by
  obtain ⟨A, c, rfl, hA⟩ := hu
  obtain ⟨A', c', rfl, hA'⟩ := hv
  have HA : Hid (∀ k, k < l.length → ∃ b o x, A = some ⟨b, o, none⟩ ∧ l[k]? = some x ∧ w.cell? ⟨b, o + k * 2, none⟩ = some (.int .i64 x.1) ∧ w.cell? ⟨b, o + k * 2 + 1, none⟩ = some (.string x.2)) := Lib.hid (fun k hk => by
    rcases hA with h | ⟨b, o, h1, h2, h3⟩
    · rw [h] at hk; simp at hk
    · exact ⟨b, o, l[k], h1, List.getElem?_eq_getElem hk, h3 k _ 0 _ (List.getElem?_eq_getElem hk) rfl, h3 k _ 1 _ (List.getElem?_eq_getElem hk) rfl⟩)
  have HA' : Hid (∀ k, k < l.length → ∃ b o x, A' = some ⟨b, o, none⟩ ∧ l[k]? = some x ∧ w.cell? ⟨b, o + k * 2, none⟩ = some (.int .i64 x.1) ∧ w.cell? ⟨b, o + k * 2 + 1, none⟩ = some (.string x.2)) := Lib.hid (fun k hk => by
    rcases hA' with h | ⟨b, o, h1, h2, h3⟩
    · rw [h] at hk; simp at hk
    · exact ⟨b, o, l[k], h1, List.getElem?_eq_getElem hk, h3 k _ 0 _ (List.getElem?_eq_getElem hk) rfl, h3 k _ 1 _ (List.getElem?_eq_getElem hk) rfl⟩)
  clear hA hA'
  go_enter Tryz.func10, Tryz.ntmps10
  go_wp2
  go_loopw [5] (fun vi wr => ∃ k : Nat, k ≤ l.length ∧ vi = .int .i64 k ∧ SW w wr) (fun vi _ => l.length - (intOf vi).toNat)
  case atStart => exact ⟨0, Nat.zero_le _, rfl, Below.refl _ _⟩
  case round =>
    obtain ⟨k, hk, rfl, hS⟩ := hrel
    by_cases hlt : k < l.length
    · obtain ⟨b, o, x, rfl, hx, c0, c1⟩ := HA.out k hlt
      obtain ⟨b', o', x', rfl, hx', d0, d1⟩ := HA'.out k hlt
      rw [hx] at hx'
      obtain rfl := Option.some.inj hx'
      have i2 : (k : Int) < (l.length : Int) := by omega
      have f0 := SW.cell (bel_cell hS c0)
      have f1 := SW.cell (bel_cell hS c1)
      have f2 := SW.cell (bel_cell hS d0)
      have f3 := SW.cell (bel_cell hS d1)
      clear hx hx' c0 c1 d0 d1
      go_wp2
      have hNe : Nonempty (Wd (SW wr)) := ⟨⟨_, SW.drew _⟩⟩
      refine quietS (S := SW wr) (by kernel_rfl) (by kernel_rfl) (SW.drew _) ?_
      repeat (first | go_big_quiet_skip | (go_big_quiet_want; go_big_quiet_op; first | go_big_quiet_on | go_big_quiet_call ((fail))))
      refine wpQuiet_nil ?_
      rintro W ⟨⟨_, hW⟩, rfl⟩
      go_wp2
      go_roundw
      case rel => exact ⟨k + 1, by omega, by go_num, Below.trans hS (Below.mono hW hS.size)⟩
      case measure => simp [intOf]; omega
    · go_wp2
      go_ret
      exact ⟨rfl, hS⟩

end Go.Proofs.YtdpcjafkahhecaaGreatDoor

/- Walk of the law's examples: awake. -/
namespace Go.Proofs.YtdpcjafkahhecaaGreatDoor
open Go.RowKit Go.Shelf Go.Maps
set_option linter.unusedSimpArgs false
set_option linter.unusedVariables false
set_option maxRecDepth 100000 in
set_option maxHeartbeats 8000000 in
theorem awake9_any (w : World) : Calls Tryz.prog 9 #[] w fun e w' => e = .returned (.bool true) ∧ Below w.heap.size w w' := by
  have hS : Below w.heap.size w w := Below.refl _ _
  go_enter Tryz.func9, Tryz.ntmps9
  go_upto_region 2 with (first | (go_at_call 27; refine (places9_any _).mono ?_; rintro e wa ⟨N, XP, rfl, hXP, hA, hba⟩; obtain rfl := hXP.out; have hS := Below.trans hS (Below.mono hba hS.size)) | (go_at_call 28; refine (flights9_any _).mono ?_; rintro e wb ⟨NF, MF, rfl, hT, hbb⟩; have hA := hA.more hbb; have hS := Below.trans hS (Below.mono hbb hS.size)) | (go_at_call 29; refine (shares9_any _).mono ?_; rintro e wc ⟨rfl, hwc⟩; have hbc := bel_alloc wb (.cells #[.string ⟨#[65, 70]⟩, .int .i64 900, .int .i64 9497, .int .i64 9506, .int .i64 1, .string ⟨#[66, 65]⟩, .int .i64 2, .string ⟨#[76, 72, 82]⟩, .string ⟨#[74, 70, 75]⟩] shT); rw [← hwc] at hbc; have hR := shares9_row wb; rw [← hwc] at hR; clear hwc; have hA := hA.more hbc; have hT := hT.more hbc; have hG := Lib.hid (Args9.mk hA hT hR); have hS := Below.trans hS (Below.mono hbc hS.size)) | (go_at_call 13; refine (find91_any hG.out).mono ?_; rintro e w1 ⟨rfl, hb1⟩; have hS := Below.trans hS (Below.mono hb1 hS.size)))
  clear hA hT hG hR hba hbb hbc
  have q0 := (cells_new w1 #[.string ⟨#[65, 70]⟩, .int .i64 900, .int .i64 9501, .string ⟨#[76, 72, 82]⟩, .string ⟨#[74, 70, 75]⟩, .int .i64 13682040, .int .i64 13682520] segT 0).trans (show _ = some (Value.string ⟨#[65, 70]⟩) from rfl)
  have q1 := (cells_new w1 #[.string ⟨#[65, 70]⟩, .int .i64 900, .int .i64 9501, .string ⟨#[76, 72, 82]⟩, .string ⟨#[74, 70, 75]⟩, .int .i64 13682040, .int .i64 13682520] segT 1).trans (show _ = some (Value.int .i64 900) from rfl)
  have q2 := (cells_new w1 #[.string ⟨#[65, 70]⟩, .int .i64 900, .int .i64 9501, .string ⟨#[76, 72, 82]⟩, .string ⟨#[74, 70, 75]⟩, .int .i64 13682040, .int .i64 13682520] segT 2).trans (show _ = some (Value.int .i64 9501) from rfl)
  have q3 := (cells_new w1 #[.string ⟨#[65, 70]⟩, .int .i64 900, .int .i64 9501, .string ⟨#[76, 72, 82]⟩, .string ⟨#[74, 70, 75]⟩, .int .i64 13682040, .int .i64 13682520] segT 3).trans (show _ = some (Value.string ⟨#[76, 72, 82]⟩) from rfl)
  have q4 := (cells_new w1 #[.string ⟨#[65, 70]⟩, .int .i64 900, .int .i64 9501, .string ⟨#[76, 72, 82]⟩, .string ⟨#[74, 70, 75]⟩, .int .i64 13682040, .int .i64 13682520] segT 4).trans (show _ = some (Value.string ⟨#[74, 70, 75]⟩) from rfl)
  have q5 := (cells_new w1 #[.string ⟨#[65, 70]⟩, .int .i64 900, .int .i64 9501, .string ⟨#[76, 72, 82]⟩, .string ⟨#[74, 70, 75]⟩, .int .i64 13682040, .int .i64 13682520] segT 5).trans (show _ = some (Value.int .i64 13682040) from rfl)
  have q6 := (cells_new w1 #[.string ⟨#[65, 70]⟩, .int .i64 900, .int .i64 9501, .string ⟨#[76, 72, 82]⟩, .string ⟨#[74, 70, 75]⟩, .int .i64 13682040, .int .i64 13682520] segT 6).trans (show _ = some (Value.int .i64 13682520) from rfl)
  have hbB := bel_alloc w1 (.cells #[.string ⟨#[65, 70]⟩, .int .i64 900, .int .i64 9501, .string ⟨#[76, 72, 82]⟩, .string ⟨#[74, 70, 75]⟩, .int .i64 13682040, .int .i64 13682520] segT)
  have hSw : Below w.heap.size w (w1.alloc (.cells #[.string ⟨#[65, 70]⟩, .int .i64 900, .int .i64 9501, .string ⟨#[76, 72, 82]⟩, .string ⟨#[74, 70, 75]⟩, .int .i64 13682040, .int .i64 13682520] segT)) := Below.trans hS (Below.mono hbB hS.size)
  have HSW := Lib.hid hSw
  clear hS hbB hSw hb1
  generalize hW1 : w1.alloc (.cells #[.string ⟨#[65, 70]⟩, .int .i64 900, .int .i64 9501, .string ⟨#[76, 72, 82]⟩, .string ⟨#[74, 70, 75]⟩, .int .i64 13682040, .int .i64 13682520] segT) = W1 at *
  clear hW1
  have f0 := bel_get q0
  have f1 := bel_get q1
  have f2 := bel_get q2
  have f3 := bel_get q3
  have f4 := bel_get q4
  have f5 := bel_get q5
  have f6 := bel_get q6
  have hS : SW W1 W1 := Below.refl _ _
  clear q0 q1 q2 q3 q4 q5 q6
  go_upto_region 3 with (first | (go_at_call 27; refine (places9_any _).mono ?_; rintro e wa ⟨N, XP, rfl, hXP, hA, hba⟩; obtain rfl := hXP.out; have hS := Below.trans hS (Below.mono hba hS.size)) | (go_at_call 28; refine (flights9_any _).mono ?_; rintro e wb ⟨NF, MF, rfl, hT, hbb⟩; have hA := hA.more hbb; have hS := Below.trans hS (Below.mono hbb hS.size)) | (go_at_call 29; refine (shares9_any _).mono ?_; rintro e wc ⟨rfl, hwc⟩; have hbc := bel_alloc wb (.cells #[.string ⟨#[65, 70]⟩, .int .i64 900, .int .i64 9497, .int .i64 9506, .int .i64 1, .string ⟨#[66, 65]⟩, .int .i64 2, .string ⟨#[76, 72, 82]⟩, .string ⟨#[74, 70, 75]⟩] shT); rw [← hwc] at hbc; have hR := shares9_row wb; rw [← hwc] at hR; clear hwc; have hA := hA.more hbc; have hT := hT.more hbc; have hG := Lib.hid (Args9.mk hA hT hR); have hS := Below.trans hS (Below.mono hbc hS.size)) | (go_at_call 13; refine (find92_any hG.out).mono ?_; rintro e w2 ⟨rfl, hb2⟩; have hS := Below.trans hS (Below.mono hb2 hS.size)))
  clear hA hT hG hR hba hbb hbc
  have hbZ := bel_alloc w2 (.cells #[.string noB, .int .i64 0, .int .i64 0, .string noB, .string noB, .int .i64 0, .int .i64 0] segT)
  have HS2 : Hid (SW W1 (w2.alloc (.cells #[.string noB, .int .i64 0, .int .i64 0, .string noB, .string noB, .int .i64 0, .int .i64 0] segT))) := Lib.hid (Below.trans hS (Below.mono hbZ hS.size))
  clear hS hbZ hb2
  generalize hW2 : w2.alloc (.cells #[.string noB, .int .i64 0, .int .i64 0, .string noB, .string noB, .int .i64 0, .int .i64 0] segT) = W2 at *
  clear hW2
  have g0 : ∀ W, SW W2 W → _ := fun W h => f0 W (Below.trans HS2.out (Below.mono h HS2.out.size))
  have g1 : ∀ W, SW W2 W → _ := fun W h => f1 W (Below.trans HS2.out (Below.mono h HS2.out.size))
  have g2 : ∀ W, SW W2 W → _ := fun W h => f2 W (Below.trans HS2.out (Below.mono h HS2.out.size))
  have g3 : ∀ W, SW W2 W → _ := fun W h => f3 W (Below.trans HS2.out (Below.mono h HS2.out.size))
  have g4 : ∀ W, SW W2 W → _ := fun W h => f4 W (Below.trans HS2.out (Below.mono h HS2.out.size))
  have g5 : ∀ W, SW W2 W → _ := fun W h => f5 W (Below.trans HS2.out (Below.mono h HS2.out.size))
  have g6 : ∀ W, SW W2 W → _ := fun W h => f6 W (Below.trans HS2.out (Below.mono h HS2.out.size))
  have hS : (SW W2) _ := SW.drew _
  refine wp_region_held_drew (S := SW W2) (by kernel_rfl) hS (fun _ => ?_)
  refine wpAnyH_take (i := 3) (v := ?vR3) rfl (by kernel_rfl) (by kernel_rfl) (by kernel_rfl) (fun _ _ _ h => h) (Or.inl ⟨by rfl, ?hyR3⟩) hS ?restR3
  case hyR3 =>
    intro w hSw
    have k0 := g0 w hSw; have k1 := g1 w hSw; have k2 := g2 w hSw; have k3 := g3 w hSw; have k4 := g4 w hSw; have k5 := g5 w hSw; have k6 := g6 w hSw
    first | (go_simp; done) | (go_simp; with_reducible rfl)
  try simp only [Act.put, List.setIfInBounds_toArray, List.set_cons_zero, List.set_cons_succ]
  refine wpAnyH_ready (rs := [0]) (by kernel_rfl) (by simp) ?_
  refine AllReadyH.cons rfl (fun K hK => ?_) AllReadyH.nil
  go_simp
  go_wp2_with (go_at_call 27; refine (places9_any _).mono ?_; rintro e wa ⟨N, XP, rfl, hXP, hA, hba⟩; obtain rfl := hXP.out; have hS := Below.trans hS (Below.mono hba hS.size))
  refine hK.out _ _ hS (fun _ => ?_)
  clear hK K
  refine wpAnyH_ready (rs := [1]) (by kernel_rfl) (by simp) ?_
  refine AllReadyH.cons rfl (fun K hK => ?_) AllReadyH.nil
  go_simp
  go_wp2_with (go_at_call 28; refine (flights9_any _).mono ?_; rintro e wb ⟨NF, MF, rfl, hT, hbb⟩; have hA := hA.more hbb; have hS := Below.trans hS (Below.mono hbb hS.size))
  refine hK.out _ _ hS (fun _ => ?_)
  clear hK K
  refine wpAnyH_ready (rs := [2]) (by kernel_rfl) (by simp) ?_
  refine AllReadyH.cons rfl (fun K hK => ?_) AllReadyH.nil
  go_simp
  go_wp2_with (go_at_call 29; refine (shares9_any _).mono ?_; rintro e wc ⟨rfl, hwc⟩; have hbc := bel_alloc wb (.cells #[.string ⟨#[65, 70]⟩, .int .i64 900, .int .i64 9497, .int .i64 9506, .int .i64 1, .string ⟨#[66, 65]⟩, .int .i64 2, .string ⟨#[76, 72, 82]⟩, .string ⟨#[74, 70, 75]⟩] shT); rw [← hwc] at hbc; have hR := shares9_row wb; rw [← hwc] at hR; clear hwc; have hA := hA.more hbc; have hT := hT.more hbc; have hG := Lib.hid (Args9.mk hA hT hR); have hS := Below.trans hS (Below.mono hbc hS.size))
  refine hK.out _ _ hS (fun _ => ?_)
  clear hK K
  refine wpAnyH_ready (rs := [4]) (by kernel_rfl) (by simp) ?_
  refine AllReadyH.cons rfl (fun K hK => ?_) AllReadyH.nil
  go_simp
  go_wp2_with (go_at_call 20; refine (cover9_any hG.out).mono ?_; rintro e w3 ⟨vC, rfl, hC, hb3⟩; obtain ⟨AC, cC, rfl, _⟩ := id hC; have hS := Below.trans hS (Below.mono hb3 hS.size))
  refine hK.out _ _ hS (fun _ => ?_)
  clear hK K
  refine wpAnyH_take (i := 5) (v := ?vR5) rfl (by kernel_rfl) (by kernel_rfl) (by kernel_rfl) (fun _ _ _ h => h) (Or.inl ⟨by rfl, ?hyR5⟩) hS ?restR5
  case hyR5 =>
    intro w hSw
    first | (go_simp; done) | (go_simp; with_reducible rfl)
  try simp only [Act.put, List.setIfInBounds_toArray, List.set_cons_zero, List.set_cons_succ]
  refine wpAnyH_take (i := 6) (v := ?vR6) rfl (by kernel_rfl) (by kernel_rfl) (by kernel_rfl) (fun _ _ _ h => h) (Or.inl ⟨by rfl, ?hyR6⟩) hS ?restR6
  case hyR6 =>
    intro w hSw
    first | (go_simp; done) | (go_simp; with_reducible rfl)
  try simp only [Act.put, List.setIfInBounds_toArray, List.set_cons_zero, List.set_cons_succ]
  refine wpAnyH_take (i := 7) (v := ?vR7) rfl (by kernel_rfl) (by kernel_rfl) (by kernel_rfl) (fun _ _ _ h => h) (Or.inl ⟨by rfl, ?hyR7⟩) hS ?restR7
  case hyR7 =>
    intro w hSw
    first | (go_simp; done) | (go_simp; with_reducible rfl)
  try simp only [Act.put, List.setIfInBounds_toArray, List.set_cons_zero, List.set_cons_succ]
  refine wpAnyH_take (i := 8) (v := ?vR8) rfl (by kernel_rfl) (by kernel_rfl) (by kernel_rfl) (fun _ _ _ h => h) (Or.inl ⟨by rfl, ?hyR8⟩) hS ?restR8
  case hyR8 =>
    intro w hSw
    first | (go_simp; done) | (go_simp; with_reducible rfl)
  try simp only [Act.put, List.setIfInBounds_toArray, List.set_cons_zero, List.set_cons_succ]
  refine wpAnyH_take (i := 9) (v := ?vR9) rfl (by kernel_rfl) (by kernel_rfl) (by kernel_rfl) (fun _ _ _ h => h) (Or.inl ⟨by rfl, ?hyR9⟩) hS ?restR9
  case hyR9 =>
    intro w hSw
    first | (go_simp; done) | (go_simp; with_reducible rfl)
  try simp only [Act.put, List.setIfInBounds_toArray, List.set_cons_zero, List.set_cons_succ]
  refine wpAnyH_done (by kernel_rfl) ?_ _
  simp only [List.getElem_toArray, List.getElem_cons_succ, List.getElem_cons_zero, List.set_cons_zero, List.set_cons_succ]
  try simp only [List.setIfInBounds_toArray, List.set_cons_zero, List.set_cons_succ]
  clear hA hT hG hR hba hbb hbc hb3
  have HS3 := Lib.hid hS
  have HC3 := Lib.hid hC
  clear hS hC
  go_upto_region 5 with (go_at_call 29; refine (shares9_any _).mono ?_; rintro e w4 ⟨rfl, rfl⟩)
  have hb4 := bel_alloc w3 (.cells #[.string ⟨#[65, 70]⟩, .int .i64 900, .int .i64 9497, .int .i64 9515, .int .i64 1, .string ⟨#[66, 65]⟩, .int .i64 2, .string ⟨#[76, 72, 82]⟩, .string ⟨#[74, 70, 75]⟩] shT)
  have hS5 : SW W2 (w3.alloc (.cells #[.string ⟨#[65, 70]⟩, .int .i64 900, .int .i64 9497, .int .i64 9515, .int .i64 1, .string ⟨#[66, 65]⟩, .int .i64 2, .string ⟨#[76, 72, 82]⟩, .string ⟨#[74, 70, 75]⟩] shT)) := Below.trans HS3.out (Below.mono hb4 HS3.out.size)
  have hC5 : RowL 4 encI (w3.alloc (.cells #[.string ⟨#[65, 70]⟩, .int .i64 900, .int .i64 9497, .int .i64 9515, .int .i64 1, .string ⟨#[66, 65]⟩, .int .i64 2, .string ⟨#[76, 72, 82]⟩, .string ⟨#[74, 70, 75]⟩] shT)) (.slice AC 1 cC) [e9i] := HC3.out.more hb4
  obtain ⟨bC, oC, rfl, _, hcc⟩ := RowL.at4 hC5 (k := 0) rfl
  have r0 := hcc 0 _ rfl
  have r1 := hcc 1 _ rfl
  have r2 := hcc 2 _ rfl
  have r3 := hcc 3 _ rfl
  simp only [Nat.zero_mul, Nat.add_zero] at r0 r1 r2 r3
  have s0 := g0 _ hS5
  have s1 := g1 _ hS5
  have s5 := g5 _ hS5
  have s6 := g6 _ hS5
  have hX0 : RowL 9 encSh9 (w3.alloc (.cells #[.string ⟨#[65, 70]⟩, .int .i64 900, .int .i64 9497, .int .i64 9515, .int .i64 1, .string ⟨#[66, 65]⟩, .int .i64 2, .string ⟨#[76, 72, 82]⟩, .string ⟨#[74, 70, 75]⟩] shT)) (.slice (some ⟨w3.heap.size, 0, none⟩) 1 1) [e9S 9515] := RowL.new (enc := encSh9) (sz := 9) w3 [e9S 9515] shT (fun _ => rfl) rfl 1
  have HX : Hid (∀ W, SW (w3.alloc (.cells #[.string ⟨#[65, 70]⟩, .int .i64 900, .int .i64 9497, .int .i64 9515, .int .i64 1, .string ⟨#[66, 65]⟩, .int .i64 2, .string ⟨#[76, 72, 82]⟩, .string ⟨#[74, 70, 75]⟩] shT)) W → RowL 9 encSh9 W (.slice (some ⟨w3.heap.size, 0, none⟩) 1 1) [e9S 9515]) := Lib.hid (fun W hb => hX0.more hb)
  have HS5 := Lib.hid hS5
  clear hS5 hC5 hcc HC3 hb4 HS3 hX0 g0 f0 g1 f1 g2 f2 g3 f3 g4 f4 g5 f5 g6 f6
  dsimp only [e9i] at r0 r1 r2 r3
  have hS : SW (w3.alloc (.cells #[.string ⟨#[65, 70]⟩, .int .i64 900, .int .i64 9497, .int .i64 9515, .int .i64 1, .string ⟨#[66, 65]⟩, .int .i64 2, .string ⟨#[76, 72, 82]⟩, .string ⟨#[74, 70, 75]⟩] shT)) (w3.alloc (.cells #[.string ⟨#[65, 70]⟩, .int .i64 900, .int .i64 9497, .int .i64 9515, .int .i64 1, .string ⟨#[66, 65]⟩, .int .i64 2, .string ⟨#[76, 72, 82]⟩, .string ⟨#[74, 70, 75]⟩] shT)) := Below.refl _ _
  go_wp2_with (first | (go_at_call 18; refine (sold9_any hG.out).mono ?_; rintro e wl ⟨Al, cl, rfl, hbl⟩; have hS := Below.trans hS (Below.mono hbl hS.size)) | (go_at_call 27; refine (places9_any _).mono ?_; rintro e wa ⟨N, XP, rfl, hXP, hA, hba⟩; obtain rfl := hXP.out; have hS := Below.trans hS (Below.mono hba hS.size)) | (go_at_call 28; refine (flights9_any _).mono ?_; rintro e wb ⟨NF, MF, rfl, hT, hbb⟩; have hA := hA.more hbb; have hS := Below.trans hS (Below.mono hbb hS.size)) | (go_at_call 29; refine (shares9_any _).mono ?_; rintro e wc ⟨rfl, hwc⟩; have hbc := bel_alloc wb (.cells #[.string ⟨#[65, 70]⟩, .int .i64 900, .int .i64 9497, .int .i64 9506, .int .i64 1, .string ⟨#[66, 65]⟩, .int .i64 2, .string ⟨#[76, 72, 82]⟩, .string ⟨#[74, 70, 75]⟩] shT); rw [← hwc] at hbc; have hR := shares9_row wb; rw [← hwc] at hR; clear hwc; have hA := hA.more hbc; have hT := hT.more hbc; have hG := Lib.hid (Args9.mk hA hT hR); have hS := Below.trans hS (Below.mono hbc hS.size)))
  refine (check9_any 9506 hG.out.tbl hG.out.row).mono ?_
  rintro e wj ⟨vj, rfl, hj, hbj⟩
  rw [e9_chk1] at hj
  obtain ⟨Aj, cj, rfl, _⟩ := id (hj.rowL rtF.len)
  have hS := Below.trans hS (Below.mono hbj hS.size)
  clear hj
  go_wp2_with (first | (go_at_call 27; refine (places9_any _).mono ?_; rintro e wa ⟨N, XP, rfl, hXP, hA, hba⟩; obtain rfl := hXP.out; have hS := Below.trans hS (Below.mono hba hS.size)) | (go_at_call 28; refine (flights9_any _).mono ?_; rintro e wb ⟨NF, MF, rfl, hT, hbb⟩; have hA := hA.more hbb; have hS := Below.trans hS (Below.mono hbb hS.size)) | (go_at_call 29; refine (shares9_any _).mono ?_; rintro e wc ⟨rfl, hwc⟩; have hbc := bel_alloc wb (.cells #[.string ⟨#[65, 70]⟩, .int .i64 900, .int .i64 9497, .int .i64 9506, .int .i64 1, .string ⟨#[66, 65]⟩, .int .i64 2, .string ⟨#[76, 72, 82]⟩, .string ⟨#[74, 70, 75]⟩] shT); rw [← hwc] at hbc; have hR := shares9_row wb; rw [← hwc] at hR; clear hwc; have hA := hA.more hbc; have hT := hT.more hbc; have hG := Lib.hid (Args9.mk hA hT hR); have hS := Below.trans hS (Below.mono hbc hS.size)))
  refine (check9_any 9515 hT (HX.out _ hS)).mono ?_
  rintro e wk ⟨vk, rfl, hk, hbk⟩
  rw [e9_chk2] at hk
  have hF := hk.rowL rtF.len
  have hS := Below.trans hS (Below.mono hbk hS.size)
  go_wp2_with (go_at_call 10; refine (sameF_any _ _ [(7, ⟨#[115, 104, 97, 114, 101, 32, 48]⟩)] _ (RowL.more hF (bel_alloc _ _)) (RowL.new (enc := encF) (sz := 2) _ [(7, ⟨#[115, 104, 97, 114, 101, 32, 48]⟩)] fltT (fun _ => rfl) rfl 1) (by simp)).mono ?_; rintro e wz ⟨rfl, hbz⟩)
  have hZ := Below.trans hS (Below.mono (bel_alloc wk (.cells #[.int .i64 7, .string ⟨#[115, 104, 97, 114, 101, 32, 48]⟩] fltT)) hS.size)
  have hZ2 := Below.trans hZ (Below.mono hbz hZ.size)
  have hA2 := Below.trans HS5.out (Below.mono hZ2 HS5.out.size)
  have hA1 := Below.trans HS2.out (Below.mono hA2 HS2.out.size)
  have hA0 := Below.trans HSW.out (Below.mono hA1 HSW.out.size)
  go_ret
  exact ⟨rfl, hA0⟩
end Go.Proofs.YtdpcjafkahhecaaGreatDoor

/- Plain facts on segments that are sold. -/
namespace Go.Proofs.YtdpcjafkahhecaaGreatDoor
open Go.RowKit Go.Shelf
set_option linter.unusedSimpArgs false
set_option linter.unusedVariables false

theorem onF_at {fs : List FV} {car : ByteArray} {num day : Int} {f : FV} (h : onF fs car num day = some f) : f ∈ fs ∧ f.car = car ∧ f.num = num ∧ Per.hasQ (f.pf, f.pt, f.pd) day = true := by
  have h1 := List.find?_some h
  unfold onB at h1
  simp only [Bool.and_eq_true] at h1
  obtain ⟨b1, b2, b3⟩ := h1
  rw [car_eq, decide_eq_true_eq] at b1
  exact ⟨List.mem_of_find?_eq_some h, b1, by simpa using b2, b3⟩

theorem legF_mem {l : List Air} {f : FV} {day : Int} {d : Dt} (h : d ∈ legF l f day) : Per.hasQ (f.pf, f.pt, f.pd) day = true ∧ d.car = f.car ∧ d.num = f.num ∧ d.day = day := by
  unfold legF at h
  split at h
  · rename_i hq
    obtain ⟨x, _, rfl⟩ := List.mem_map.1 h
    exact ⟨hq, rfl, rfl, rfl⟩
  · cases h
theorem segsL_mem {L : List Dt} {s : Sg} (h : s ∈ segsL L) : ∃ (i k : Nat) (x y : Dt), L[i]? = some x ∧ L[k]? = some y ∧ i ≤ k ∧ s = sgOf x y := by
  unfold segsL segsI at h
  obtain ⟨i, hi, h2⟩ := List.mem_flatMap.1 h
  obtain ⟨x, hx⟩ : ∃ x, L[i]? = some x := ⟨_, List.getElem?_eq_getElem (List.mem_range.1 hi)⟩
  rw [hx] at h2
  obtain ⟨y, hy, rfl⟩ := List.mem_map.1 h2
  obtain ⟨q, hq⟩ := List.getElem?_of_mem hy
  rw [List.getElem?_drop] at hq
  exact ⟨i, i + q, x, y, hx, hq, by omega, rfl⟩
theorem segsI_mem {L : List Dt} {s : Sg} (h : s ∈ segsL L) : ∃ x ∈ L, ∃ y ∈ L, s = sgOf x y := by
  obtain ⟨i, k, x, y, h1, h2, _, h3⟩ := segsL_mem h
  exact ⟨x, List.mem_of_getElem? h1, y, List.mem_of_getElem? h2, h3⟩
theorem segF_ok {L : List Air} {fs : List FV} {car : ByteArray} {num day : Int} {fr tt : ByteArray} (h : (segF L fs car num day fr tt).1 = 0) :
    (segF L fs car num day fr tt).2.car = car ∧ (segF L fs car num day fr tt).2.num = num ∧ (segF L fs car num day fr tt).2.day = day ∧ (segF L fs car num day fr tt).2.f = fr ∧ (segF L fs car num day fr tt).2.t = tt := by
  unfold segF at h ⊢
  cases ho : onF fs car num day with
  | none => rw [ho] at h; cases h
  | some f =>
    rw [ho] at h
    obtain ⟨_, h1, h2, h3⟩ := onF_at ho
    simp only at h ⊢
    cases hs : (segsL (legF L f day)).find? (ftB fr tt) with
    | none => rw [hs] at h; cases h
    | some s =>
      simp only
      have h4 := List.find?_some hs
      obtain ⟨x, hx, y, hy, rfl⟩ := segsI_mem (List.mem_of_find?_eq_some hs)
      obtain ⟨_, c1, n1, d1⟩ := legF_mem hx
      unfold ftB at h4
      simp only [Bool.and_eq_true, car_eq, decide_eq_true_eq] at h4
      exact ⟨c1.trans h1, n1.trans h2, d1, h4.1, h4.2⟩
/-- a segment that is sold: its operating flight has it -/
theorem sold_oper {L : List Air} {fs : List FV} {sh : List Sh} {car : ByteArray} {num day : Int} {fr tt : ByteArray} (h : (soldF L fs sh car num day fr tt).1 = 0) :
    segF L fs (operF sh (soldF L fs sh car num day fr tt).2).car (operF sh (soldF L fs sh car num day fr tt).2).num (operF sh (soldF L fs sh car num day fr tt).2).day (operF sh (soldF L fs sh car num day fr tt).2).f (operF sh (soldF L fs sh car num day fr tt).2).t
      = (0, operF sh (soldF L fs sh car num day fr tt).2) := by
  unfold soldF at h ⊢
  obtain ⟨o0, ho0⟩ : ∃ o, o = operF sh ⟨car, num, day, fr, tt, 0, 0⟩ := ⟨_, rfl⟩
  rw [← ho0] at h ⊢
  by_cases hr : ((segF L fs o0.car o0.num day fr tt).1 != 0) = true
  · rw [if_pos hr] at h
    simp only at h
    rw [h] at hr
    simp at hr
  · rw [if_neg hr]
    have h0 : (segF L fs o0.car o0.num day fr tt).1 = 0 := by simpa using hr
    obtain ⟨h1, h2, h3, h4, h5⟩ := segF_ok h0
    obtain ⟨r, hrr⟩ : ∃ r, r = segF L fs o0.car o0.num day fr tt := ⟨_, rfl⟩
    rw [← hrr] at h0 h1 h2 h3 h4 h5 ⊢
    obtain ⟨e, q⟩ := r
    obtain ⟨qc, qn, qd, qf, qt, qp, qa⟩ := q
    simp only at h0 h1 h2 h3 h4 h5 ⊢
    subst h0 h1 h2 h3 h4 h5
    have key : operF sh ⟨car, num, qd, qf, qt, qp, qa⟩ = ⟨o0.car, o0.num, qd, qf, qt, qp, qa⟩ := by
      rw [ho0]
      unfold operF
      simp only
      cases sh.find? (fun s => shareB s car num qd qf qt) <;> rfl
    rw [key]
    exact hrr.symm
theorem cv_eq {L : List Air} {fs : List FV} {o : Sg} {e e' : Int} {I I' : List Idd} (hn : ∀ f ∈ fs, lgsF L f.lg f.lg.length = []) (h1 : CvR (fun f e I => PathR L f o e I) fs o e I) (h2 : CvR (fun f e I => RPathR L f o e I) fs o e' I') : e' = e ∧ I' = I := by
  rcases h1 with ⟨h1, h3, h4⟩ | ⟨f, hf, h1⟩
  · rcases h2 with ⟨_, h5, h6⟩ | ⟨g, hg, _⟩
    · exact ⟨h5.trans h3.symm, h6.trans h4.symm⟩
    · rw [h1] at hg; cases hg
  · rcases h2 with ⟨h2, _, _⟩ | ⟨g, hg, h2⟩
    · rw [h2] at hf; cases hf
    · rw [hf] at hg
      cases hg
      have := path_eq (hn f (List.mem_of_find?_eq_some hf)) h1 h2
      exact ⟨this.1.symm, this.2.symm⟩
theorem cv_len {L : List Air} {fs : List FV} {o : Sg} {e : Int} {I : List Idd} (hn : ∀ f ∈ fs, f.lg.length ≤ 100) (h1 : CvR (fun f e I => PathR L f o e I) fs o e I) : I.length ≤ 1000 := by
  rcases h1 with ⟨_, _, h⟩ | ⟨f, hf, h⟩
  · rw [h]; simp
  · exact h.len (hn f (List.mem_of_find?_eq_some hf))
theorem sold_len {p : PV} {fs : List FV} {sh : List Sh} (h : Val9 p fs sh) (L : List Air) (day : Int) (g : FV → List Sg) (hg : ∀ f ∈ fs, (g f).length ≤ 10000) (k : Sh → List Sg) (hk : ∀ x ∈ sh, (k x).length ≤ 1) : (fs.flatMap g ++ sh.flatMap k).length ≤ 1000000 := by
  have h1 : ∀ (l : List FV), (∀ f ∈ l, (g f).length ≤ 10000) → (l.flatMap g).length ≤ 10000 * l.length := by
    intro l
    induction l with
    | nil => intro _; simp
    | cons x r ih =>
      intro hl
      have a1 := ih (fun f hf => hl f (List.mem_cons_of_mem _ hf))
      have a2 := hl x (List.mem_cons_self ..)
      rw [List.flatMap_cons, List.length_append, List.length_cons]
      omega
  have h2 : ∀ (l : List Sh), (∀ f ∈ l, (k f).length ≤ 1) → (l.flatMap k).length ≤ 1 * l.length := by
    intro l
    induction l with
    | nil => intro _; simp
    | cons x r ih =>
      intro hl
      have a1 := ih (fun f hf => hl f (List.mem_cons_of_mem _ hf))
      have a2 := hl x (List.mem_cons_self ..)
      rw [List.flatMap_cons, List.length_append, List.length_cons]
      omega
  have a := h1 fs hg
  have b := h2 sh hk
  have := h.lf
  have := h.ls
  rw [List.length_append]
  omega
end Go.Proofs.YtdpcjafkahhecaaGreatDoor
