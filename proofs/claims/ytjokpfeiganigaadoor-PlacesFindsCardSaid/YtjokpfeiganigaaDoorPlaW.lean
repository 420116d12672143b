/- Walk of the law's awake. -/
import Derived.Test.YtjokpfeiganigaaDoorPlaG
import Derived.Test.YtjokpfeiganigaaDoorPlaA1
import Derived.Test.YtjokpfeiganigaaDoorPlaZ
namespace Go.Proofs.YtjokpfeiganigaaDoor
open Go.RowKit Go.Shelf
set_option linter.unusedSimpArgs false
set_option linter.unusedVariables false

theorem strL3 (W : World) (a b c : ByteArray) (t : TypeId) : StrL (W.alloc (.cells #[.string a, .string b, .string c] t)) (.slice (some ⟨W.heap.size, 0, none⟩) 3 3) [a, b, c] :=
  ⟨_, 3, rfl, .inr ⟨W.heap.size, 0, rfl, by simp, fun i hi => by
    rw [cells_new]
    have : i = 0 ∨ i = 1 ∨ i = 2 := by simp at hi; omega
    rcases this with rfl | rfl | rfl <;> rfl⟩⟩

set_option maxRecDepth 100000 in
set_option maxHeartbeats 8000000 in
theorem awake_any (w : World) : Calls Tryd.prog 11 #[] w fun e w' => e = .returned (.bool true) ∧ Below w.heap.size w w' := by
  have KM1 : Hid (∀ a d W, PlL W (sP a d) → Calls Tryd.prog 22 #[encP (sP a d), .string ⟨#[76, 71, 87]⟩, .string ⟨#[82, 79, 77]⟩] W fun e w' => e = .returned (.tuple #[.int .i64 902, .int .i64 0]) ∧ Below W.heap.size W w') :=
    Lib.hid (fun a d W h => (miles_any (sP a d) xLGW xROM W (sP_ok a d) h (by decide) (by decide)).mono (by rintro e w' ⟨rfl, hb, _⟩; exact ⟨by rw [show (sP a d).l = sL from rfl, show (sP a d).ds = sD from rfl, ml_1], hb⟩))
  have KM2 : Hid (∀ a d W, PlL W (sP a d) → Calls Tryd.prog 22 #[encP (sP a d), .string ⟨#[76, 79, 78]⟩, .string ⟨#[78, 89, 67]⟩] W fun e w' => e = .returned (.tuple #[.int .i64 0, .int .i64 14]) ∧ Below W.heap.size W w') :=
    Lib.hid (fun a d W h => (miles_any (sP a d) xLON xNYC W (sP_ok a d) h (by decide) (by decide)).mono (by rintro e w' ⟨rfl, hb, _⟩; exact ⟨by rw [show (sP a d).l = sL from rfl, show (sP a d).ds = sD from rfl, ml_2], hb⟩))
  have KY : Hid (∀ a d v W, PlL W (sP a d) → StrL W v [⟨#[82, 79, 77]⟩, ⟨#[76, 79, 78]⟩, ⟨#[80, 65, 82]⟩] → Calls Tryd.prog 24 #[encP (sP a d), v] W fun e w' => e = .returned (.tuple #[.int .i64 1116, .int .i64 0]) ∧ Below W.heap.size W w') :=
    Lib.hid (fun a d v W h hv => (way_any (sP a d) v [xROM, xLON, xPAR] W (sP_ok a d) h hv (by decide) (by decide)).mono (by rintro e w' ⟨rfl, hb⟩; exact ⟨by rw [show (sP a d).l = sL from rfl, show (sP a d).ds = sD from rfl, wy_1], hb⟩))
  have KF : Hid (∀ a d W, PlL W (sP a d) → Calls Tryd.prog 15 #[encP (sP a d), .string ⟨#[67, 68, 71]⟩] W fun e w' => ∃ A' c', e = .returned (.tuple #[.agg #[.string ⟨#[67, 68, 71]⟩, .string ⟨#[80, 65, 82]⟩, .string ⟨#[70, 82]⟩, .int .i64 0, .slice A' 0 c'], .bool true]) ∧ Below W.heap.size W w') :=
    Lib.hid (fun a d W h => (find_any (sP a d) xCDG W (sP_ok a d).la h.air (show ∀ x ∈ sL, x.shs.length ≤ 40 by decide)).mono (by
      rintro e w' ⟨hb, hf⟩
      rw [show (sP a d).l = sL from rfl, fd_CDG] at hf
      obtain ⟨A', c', rfl, _⟩ := hf
      exact ⟨A', c', rfl, hb⟩))
  have KC : Hid (∀ a d W, PlL W (sP a d) → Calls Tryd.prog 18 #[encP (sP a d), .string ⟨#[76, 72, 82]⟩] W fun e w' => e = .returned (.string ⟨#[76, 79, 78]⟩) ∧ Below W.heap.size W w') :=
    Lib.hid (fun a d W h => (city_any (sP a d) xLHR W (sP_ok a d).la h.air).mono (by rintro e w' ⟨rfl, hb⟩; exact ⟨by rw [show (sP a d).l = sL from rfl, cy_LHR]; rfl, hb⟩))
  have KL : Hid (∀ a d W, PlL W (sP a d) → Calls Tryd.prog 20 #[encP (sP a d), .string ⟨#[82, 79, 77]⟩] W fun e w' => e = .returned (.string ⟨#[73, 84]⟩) ∧ Below W.heap.size W w') :=
    Lib.hid (fun a d W h => (country_any (sP a d) xROM W (sP_ok a d).la h.air).mono (by rintro e w' ⟨rfl, hb⟩; exact ⟨by rw [show (sP a d).l = sL from rfl, ld_ROM]; rfl, hb⟩))
  have KK : Hid (∀ a d W, PlL W (sP a d) → Calls Tryd.prog 13 #[encP (sP a d)] W fun e w' => ∃ A' c', e = .returned (.slice A' 0 c') ∧ Below W.heap.size W w') :=
    Lib.hid (fun a d W h => (check6_any (sP a d) W (sP_ok a d) h).mono (by
      rintro e w' ⟨v', rfl, hO, hb⟩
      rw [sample_chk] at hO
      obtain ⟨A', c', rfl, _⟩ := ROwn.rowL hO rtF.len
      exact ⟨A', c', rfl, hb⟩))
  have hb : Below w.heap.size w w := Below.refl _ _
  go_enter Tryd.func11, Tryd.ntmps11
  go_wp2_with (first
    | (go_at_call 32; refine (sample_any _).mono ?_; rintro e w' ⟨a, d, rfl, hL, hbs⟩; have hb : Below w.heap.size w w' := (by first | exact hb.trans (hbs.mono hb.size) | exact (hb.alloc hb.size _).trans (hbs.mono (hb.alloc hb.size _).size)); clear hbs)
    | (go_at_call 22; first | (with_reducible refine (KM1.out _ _ _ hL).mono ?_) | (with_reducible refine (KM2.out _ _ _ hL).mono ?_))
    | (go_at_call 24; refine (KY.out _ _ _ _ (hL.more (bel_alloc _ _)) (strL3 _ _ _ _ _)).mono ?_; rintro e w' ⟨rfl, hbs⟩; have hb : Below w.heap.size w w' := (hb.alloc hb.size _).trans (hbs.mono (hb.alloc hb.size _).size); clear hbs)
    | (go_at_call 15; refine (KF.out _ _ _ hL).mono ?_; rintro e w' ⟨A', c', rfl, hbs⟩; have hb : Below w.heap.size w w' := hb.trans (hbs.mono hb.size); clear hbs)
    | (go_at_call 18; refine (KC.out _ _ _ hL).mono ?_)
    | (go_at_call 20; refine (KL.out _ _ _ hL).mono ?_)
    | (go_at_call 13; refine (KK.out _ _ _ hL).mono ?_; rintro e w' ⟨A9, c9, rfl, hbs⟩; have hb : Below w.heap.size w w' := hb.trans (hbs.mono hb.size); clear hbs)
    | (with_reducible rintro e w' ⟨rfl, hbs⟩; have hb : Below w.heap.size w w' := hb.trans (hbs.mono hb.size); clear hbs))
  go_ret
  exact ⟨rfl, hb⟩

end Go.Proofs.YtjokpfeiganigaaDoor
