/- The specification's Put. -/
import Derived.Test.YthillkbcbklhaaaHldQC
namespace Go.Proofs.Ythillkbcbklhaaa
open Go.RowKit Go.Shelf Go.Maps Go.MapKept
set_option linter.unusedSimpArgs false
set_option linter.unusedVariables false

theorem ins_at : ∀ {hs : List Hd} {x : Hd} {k : Nat}, (∀ (j : Nat) (y : Hd), j < k → hs[j]? = some y → ltH y x) → k ≤ hs.length → (∀ y, hs[k]? = some y → ¬ ltH y x) → insH x hs = (hs.take k ++ [x]) ++ hs.drop k
  | [], x, k, _, hk, _ => by simp [insH]
  | z :: r, x, 0, _, _, hn => by
    unfold insH
    rw [if_neg (hn z rfl)]
    rfl
  | z :: r, x, k + 1, hl, hk, hn => by
    have hz : ltH z x := hl 0 z (by omega) rfl
    have ih := ins_at (hs := r) (x := x) (k := k) (fun j y hj hy => hl (j + 1) y (by omega) (by simpa using hy)) (by simpa using hk) (fun y hy => hn y (by simpa using hy))
    unfold insH
    rw [if_pos hz, ih]
    simp
set_option maxRecDepth 100000 in
set_option maxHeartbeats 16000000 in
theorem rput_bad (B : Nat) (A : Option Addr) (c : Nat) (hs : List Hd) (x : Hd) (w : World) (hl : hs.length ≤ 999) (h : RefAt w B A c hs) (hx : OkH x) (hxr : RowIn (fun k => k ≠ B) 4 encD w x.A x.l) (hno : ¬ (rgtH x = true ∧ findH hs x.id = none)) :
    Calls Try.prog 12 #[.pointer (some ⟨B, 0, none⟩), aggH x] w fun e w' => e = .returned (.int .i64 (putE hs x)) ∧ RefS w' B (putG hs x) ∧ But w w' (fun k => k = B) := by
  have hb := bel_alloc w (.cells #[.int .i64 x.id, .slice x.A x.l.length x.c, .string x.cls, .int .i64 x.cnt, .int .i64 x.til] rhT)
  have u0 := hd_cellsR w x 0 _ rfl
  have u1 := hd_cellsR w x 1 _ rfl
  have u2 := hd_cellsR w x 2 _ rfl
  have u3 := hd_cellsR w x 3 _ rfl
  have u4 := hd_cellsR w x 4 _ rfl
  have HS := Lib.hid h
  have HB := Lib.hid hb
  obtain ⟨w5, h5⟩ : ∃ w5, w5 = w.alloc (.cells #[.int .i64 x.id, .slice x.A x.l.length x.c, .string x.cls, .int .i64 x.cnt, .int .i64 x.til] rhT) := ⟨_, rfl⟩
  have HE5 := Lib.hid h5
  rw [← h5] at hb u0 u1 u2 u3 u4
  have KT : Hid (∀ W, SW w5 W → Calls Try.prog 28 #[.slice x.A x.l.length x.c] W fun e w' => e = .returned (.bool (twiP x.l)) ∧ SW w5 w') := Lib.hid (fun W hW => (twice_any x.A x.c x.l W hx.len ((hxr.rowL x.c).more (hb.trans (hW.mono hb.size)))).mono (by
    rintro e w' ⟨rfl, h3⟩
    exact ⟨rfl, hW.trans (h3.mono hW.size)⟩))
  have KM : Hid (∀ W, Calls Try.prog 29 #[.int .i64 x.til] W fun e w' => e = .returned (.bool (timB x.til)) ∧ w' = W) := Lib.hid (fun W => rtime_any x.til W)
  have KA : Hid (∀ W, SW w5 W → Calls Try.prog 30 #[.pointer (some ⟨B, 0, none⟩), .int .i64 x.id] W fun e w' => e = .returned (.int .i64 (atP hs x.id)) ∧ w' = W) := Lib.hid (fun W hW => at_any B A c hs x.id W (by omega) (h.more (hb.trans (hW.mono hb.size))))
  have HR : Hid (rgtH x = (decide (1 ≤ x.id) && decide (0 < x.l.length) && !twiP x.l && decide (1 ≤ x.cnt) && decide (x.cnt ≤ 99) && timB x.til)) := Lib.hid rfl
  have HX := Lib.hid hx
  have HXR := Lib.hid hxr
  have HL := Lib.hid hl
  have HW5 := Lib.hid hb
  have HBAD : Hid (rgtH x = false → ∀ W, SW w5 W → Ending.returned (.int .i64 2) = .returned (.int .i64 (putE hs x)) ∧ RefS W B (putG hs x) ∧ But w W (fun k => k = B)) := Lib.hid (fun hr W hW => by
    have e : putE hs x = 2 := by unfold putE; rw [if_pos hr]
    have hbW := HW5.out.trans (hW.mono HW5.out.size)
    unfold putG
    rw [e, if_neg (by decide)]
    exact ⟨rfl, ⟨A, c, HS.out.more hbW⟩, But.of_below hbW⟩)
  clear h hb hx hxr hl
  go_enter Try.func12, Try.ntmps12
  go_upto_region 1 with fail
  rw [← HE5.out]
  clear h5
  by_cases c0 : x.id < 1
  · have HRF := Lib.hid (HBAD.out (by rw [HR.out]; simp [show ¬ 1 ≤ x.id by omega]))
    go_wp2
    go_ret
    exact HRF.out _ (Below.refl _ _)
  by_cases c1 : x.l.length = 0
  · have g1 : ((x.l.length : Int) == 0) = true := by simp [c1]
    have HRF := Lib.hid (HBAD.out (by rw [HR.out]; simp [c1]))
    go_wp2
    go_ret
    exact HRF.out _ (Below.refl _ _)
  have g1 : ((x.l.length : Int) == 0) = false := by rw [beq_eq_false_iff_ne]; omega
  cases hT : twiP x.l with
  | true =>
    rw [hT] at KT
    have HRF := Lib.hid (HBAD.out (by rw [HR.out]; simp [hT]))
    go_wp2_with (first | (go_at_call 28; (with_reducible refine (KT.out _ (Below.refl _ _)).mono ?_); rintro e w6 ⟨rfl, hS6⟩; have u0 := bel_cell hS6 u0; have u1 := bel_cell hS6 u1; have u2 := bel_cell hS6 u2; have u3 := bel_cell hS6 u3; have u4 := bel_cell hS6 u4))
    go_ret
    exact HRF.out _ hS6
  | false =>
    rw [hT] at KT
    by_cases c3 : x.cnt < 1
    · have HRF := Lib.hid (HBAD.out (by rw [HR.out]; simp [show ¬ 1 ≤ x.cnt by omega]))
      go_wp2_with (first | (go_at_call 28; (with_reducible refine (KT.out _ (Below.refl _ _)).mono ?_); rintro e w6 ⟨rfl, hS6⟩; have u0 := bel_cell hS6 u0; have u1 := bel_cell hS6 u1; have u2 := bel_cell hS6 u2; have u3 := bel_cell hS6 u3; have u4 := bel_cell hS6 u4))
      go_ret
      exact HRF.out _ hS6
    by_cases c4 : 99 < x.cnt
    · have HRF := Lib.hid (HBAD.out (by rw [HR.out]; simp [show ¬ x.cnt ≤ 99 by omega]))
      go_wp2_with (first | (go_at_call 28; (with_reducible refine (KT.out _ (Below.refl _ _)).mono ?_); rintro e w6 ⟨rfl, hS6⟩; have u0 := bel_cell hS6 u0; have u1 := bel_cell hS6 u1; have u2 := bel_cell hS6 u2; have u3 := bel_cell hS6 u3; have u4 := bel_cell hS6 u4))
      go_ret
      exact HRF.out _ hS6
    cases hM : timB x.til with
    | false =>
      rw [hM] at KM
      have HRF := Lib.hid (HBAD.out (by rw [HR.out]; simp [hM]))
      go_wp2_with (first | (go_at_call 28; (with_reducible refine (KT.out _ (Below.refl _ _)).mono ?_); rintro e w6 ⟨rfl, hS6⟩; have u0 := bel_cell hS6 u0; have u1 := bel_cell hS6 u1; have u2 := bel_cell hS6 u2; have u3 := bel_cell hS6 u3; have u4 := bel_cell hS6 u4) | (go_at_call 29; (with_reducible refine (KM.out _).mono ?_); rintro e wt ⟨rfl, rfl⟩))
      go_ret
      exact HRF.out _ hS6
    | true =>
      rw [hM] at KM
      have HRT : Hid (rgtH x = true) := Lib.hid (by rw [HR.out, hT, hM]; simp; omega)
      cases hf : findH hs x.id with
      | some y =>
        obtain ⟨k, _, hat⟩ := at_find HS.out.srt hf
        rw [hat] at KA
        have i1 : (0 : Int) ≤ (k : Int) := by omega
        have HE : Hid (putE hs x = 6) := Lib.hid (by unfold putE; rw [if_neg (by rw [HRT.out]; decide), if_pos (by rw [hf]; rfl)])
        have HG : Hid (putG hs x = hs) := Lib.hid (by unfold putG; rw [HE.out, if_neg (by decide)])
        clear hf hat
        go_wp2_with (first | (go_at_call 30; (with_reducible refine (KA.out _ hS6).mono ?_); rintro e wa ⟨rfl, rfl⟩) | (go_at_call 28; (with_reducible refine (KT.out _ (Below.refl _ _)).mono ?_); rintro e w6 ⟨rfl, hS6⟩; have u0 := bel_cell hS6 u0; have u1 := bel_cell hS6 u1; have u2 := bel_cell hS6 u2; have u3 := bel_cell hS6 u3; have u4 := bel_cell hS6 u4) | (go_at_call 29; (with_reducible refine (KM.out _).mono ?_); rintro e wt ⟨rfl, rfl⟩))
        go_ret
        have hbW := HW5.out.trans (hS6.mono HW5.out.size)
        exact ⟨by rw [HE.out]; rfl, by rw [HG.out]; exact ⟨A, c, HS.out.more hbW⟩, But.of_below hbW⟩
      | none => exact absurd ⟨HRT.out, hf⟩ hno
end Go.Proofs.Ythillkbcbklhaaa
