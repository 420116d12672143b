/- The chapter's examples. -/
import Derived.Test.YtkghpapbifijcaaGreatDoorStkA2
namespace Go.Proofs.YtkghpapbifijcaaGreatDoor
open Go.RowKit Go.Shelf Go.Maps Go.MapKept
set_option linter.unusedSimpArgs false
set_option linter.unusedVariables false

set_option maxRecDepth 100000 in
set_option maxHeartbeats 8000000 in
theorem awake15_any (w : World) : Calls Tryz.prog 11 #[] w fun e w' => e = .returned (.bool true) ∧ Below w.heap.size w w' := by
  have KM := Lib.hid smp_any
  have KN : Hid (∀ A n w, CfL w (.slice A 2 2) (smpL n) → Calls Tryz.prog 12 #[.slice A 2 2] w fun e w' => ∃ B A1 A2 A3 A4 c1 c2 c3 c4, ∃ R, e = .returned (.tuple #[.pointer (some ⟨B, 0, none⟩), .slice none 0 0]) ∧ SesE w.heap.size R (fun _ => False) B 0 (smpC A1 A2 A3 A4 c1 c2 c3 c4) 100 w' S0 ∧ Below w.heap.size w w') := Lib.hid (fun A n w h => new_smp h)
  have KI0 := Lib.hid id0_any
  have KI1 := Lib.hid id1_any
  go_enter Tryz.func11, Tryz.ntmps11
  go_upto_region 2 with (first
    | (go_at_call 40; refine (KM.out _).mono ?_; rintro e w1 ⟨rfl, hv1, hb1⟩)
    | (go_at_call 12; refine (KN.out _ _ _ hv1).mono ?_; rintro e w4 ⟨B, A1, A2, A3, A4, c1, c2, c3, c4, R, rfl, hS, hb4⟩))
  go_upto_region 4 with fail
  have hB := Below.refl w4.heap.size w4
  have hlow := Nat.le_trans hb1.size hb4.size
  go_upto_region 5 with (first
    | (go_at_call 18; with_reducible refine (KI0.out w4).mono ?_; rintro e w5 ⟨rfl, hb5⟩)
    | (go_at_call 18; with_reducible refine (KI0.out _).mono ?_; rintro e w6 ⟨rfl, hb6⟩; have hra := rwa_one w5)
    | (go_at_call 18; with_reducible refine (KI1.out _).mono ?_; rintro e w7 ⟨rfl, hb7⟩))
  have hal1 := bel_alloc w5 (.cells #[.string ⟨#[66, 65]⟩, .int .i64 2, .int .i64 9, .string ⟨#[76, 72, 82]⟩] lidT)
  have hal2 := bel_alloc w7 (.cells #[.string ⟨#[66, 65]⟩, .int .i64 2, .int .i64 9, .string ⟨#[76, 72, 82]⟩, .string ⟨#[66, 65]⟩, .int .i64 2, .int .i64 9, .string ⟨#[67, 68, 71]⟩] lidT)
  have hrb := rwb_one w7
  have hz1 : w5.heap.size + 1 = (w5.alloc (.cells #[.string ⟨#[66, 65]⟩, .int .i64 2, .int .i64 9, .string ⟨#[76, 72, 82]⟩] lidT)).heap.size := by simp only [World.size_alloc]
  have hz2 : w7.heap.size + 1 = (w7.alloc (.cells #[.string ⟨#[66, 65]⟩, .int .i64 2, .int .i64 9, .string ⟨#[76, 72, 82]⟩, .string ⟨#[66, 65]⟩, .int .i64 2, .int .i64 9, .string ⟨#[67, 68, 71]⟩] lidT)).heap.size := by simp only [World.size_alloc]
  generalize w5.alloc (.cells #[.string ⟨#[66, 65]⟩, .int .i64 2, .int .i64 9, .string ⟨#[76, 72, 82]⟩] lidT) = w5a at *
  generalize w7.alloc (.cells #[.string ⟨#[66, 65]⟩, .int .i64 2, .int .i64 9, .string ⟨#[76, 72, 82]⟩, .string ⟨#[66, 65]⟩, .int .i64 2, .int .i64 9, .string ⟨#[67, 68, 71]⟩] lidT) = w8 at *
  have hra8 := ((hra.more hb6).more hb7).more hal2
  have hc0 := hb5.trans (hal1.mono hb5.size)
  have hc1 := hc0.trans (hb6.mono hc0.size)
  have hc2 := hc1.trans (hb7.mono hc1.size)
  have hc3 := hc2.trans (hal2.mono hc2.size)
  have l1 := hb5.size
  have l2 := hb6.size
  have l3 := hb7.size
  have l4 := hal2.size
  have l5 := hc2.size
  obtain ⟨F, hF⟩ : ∃ F : Nat → Prop, F = (fun k => False ∨ (w4.heap.size ≤ k ∧ k < w8.heap.size)) := ⟨_, rfl⟩
  have HRA : Hid (RowIn (fun k => F k ∨ k < w1.heap.size) 4 encD w8 (some ⟨w5.heap.size, 0, none⟩) [id0]) := Lib.hid (hra8.imp (fun k hk => .inl (by rw [hF]; exact .inr ⟨by omega, by omega⟩)))
  have HRB : Hid (RowIn (fun k => F k ∨ k < w1.heap.size) 4 encD w8 (some ⟨w7.heap.size, 0, none⟩) [id0, id1]) := Lib.hid (hrb.imp (fun k hk => .inl (by rw [hF]; exact .inr ⟨by omega, by omega⟩)))
  have hS8 : SesE w1.heap.size R F B 0 (smpC A1 A2 A3 A4 c1 c2 c3 c4) 100 w8 S0 := by rw [hF]; exact hS.more hc3
  have hw8 := hb1.trans ((hb4.trans (hc3.mono hb4.size)).mono hb1.size)
  have hN8 : w1.heap.size ≤ w8.heap.size := Nat.le_trans hb4.size hc3.size
  clear hra8 hra hrb hal1 hal2 hc0 hc1 hc2 hc3 hS hB hlow
  clear hF
  have HW8 := Lib.hid hw8
  have HN8 := Lib.hid hN8
  have hl1 := hb1.size
  have HL1 := Lib.hid hl1
  clear hb5 hb6 hb7 hb4 hb1 hv1 l1 l2 l3 l4 l5 hz1 hz2 hw8 hN8 hl1
  generalize w1.heap.size = N at *
  have hS : SesE N R F B 0 (smpC A1 A2 A3 A4 c1 c2 c3 c4) 100 w8 S0 := hS8
  clear hS8
  have hLL := Lv.refl N F w8
  have KO1 : Hid (∀ W, SesE N R F B 0 (smpC A1 A2 A3 A4 c1 c2 c3 c4) 100 W S0 → Calls Tryz.prog 35 #[.pointer (some ⟨B, 0, none⟩), aggD id0, .string ⟨#[51, 50, 48]⟩] W fun e w' => e = .returned (.int .i64 0) ∧ SesE N R F B 1 (smpC A1 A2 A3 A4 c1 c2 c3 c4) 100 w' (G1 A1 A2 A3 A4 c1 c2 c3 c4) ∧ Lv N F W w') := Lib.hid (fun W h => by
    refine (ses_open h (by decide) okd0 (by unfold maxLen; decide) (by decide)).mono ?_
    rintro e w' ⟨rfl, h1, h2⟩
    exact ⟨by rw [aw1], h1, h2⟩)
  have KO2 : Hid (∀ W, SesE N R F B 1 (smpC A1 A2 A3 A4 c1 c2 c3 c4) 100 W (G1 A1 A2 A3 A4 c1 c2 c3 c4) → Calls Tryz.prog 35 #[.pointer (some ⟨B, 0, none⟩), aggD id0, .string ⟨#[51, 50, 48]⟩] W fun e w' => e = .returned (.int .i64 6) ∧ SesE N R F B 2 (smpC A1 A2 A3 A4 c1 c2 c3 c4) 100 w' (G2 A1 A2 A3 A4 c1 c2 c3 c4) ∧ Lv N F W w') := Lib.hid (fun W h => by
    refine (ses_open h (by decide) okd0 (by unfold maxLen; decide) (by decide)).mono ?_
    rintro e w' ⟨rfl, h1, h2⟩
    exact ⟨by rw [aw2], h1, h2⟩)
  have KS1 : Hid (∀ W A cc, SesE N R F B 2 (smpC A1 A2 A3 A4 c1 c2 c3 c4) 100 W (G2 A1 A2 A3 A4 c1 c2 c3 c4) → RowIn (fun k => F k ∨ k < N) 4 encD W A [id0] → Calls Tryz.prog 23 #[.pointer (some ⟨B, 0, none⟩), .slice A 1 cc, .string ⟨#[77]⟩, .int .i64 8] W fun e w' => e = .returned (.int .i64 0) ∧ SesE N R F B 2 (smpC A1 A2 A3 A4 c1 c2 c3 c4) 110 w' (G3 A1 A2 A3 A4 c1 c2 c3 c4) ∧ Lv N F W w') := Lib.hid (fun W A cc h hr => by
    refine (ses_sell h (by decide) (m := 8) (by decide) (is := [id0]) (by show 1 ≤ 1000; decide) (by simp only [List.mem_cons, List.not_mem_nil, or_false]; rintro i rfl; exact okd0) hr ⟨#[77]⟩).mono ?_
    rintro e w' ⟨rfl, h1, h2⟩
    exact ⟨by rw [aw3], h1.mono (by decide), h2⟩)
  have KS2 : Hid (∀ W A cc, SesE N R F B 2 (smpC A1 A2 A3 A4 c1 c2 c3 c4) 110 W (G3 A1 A2 A3 A4 c1 c2 c3 c4) → RowIn (fun k => F k ∨ k < N) 4 encD W A [id0] → Calls Tryz.prog 23 #[.pointer (some ⟨B, 0, none⟩), .slice A 1 cc, .string ⟨#[77]⟩, .int .i64 1] W fun e w' => e = .returned (.int .i64 17) ∧ SesE N R F B 2 (smpC A1 A2 A3 A4 c1 c2 c3 c4) 120 w' (G4 A1 A2 A3 A4 c1 c2 c3 c4) ∧ Lv N F W w') := Lib.hid (fun W A cc h hr => by
    refine (ses_sell h (by decide) (m := 1) (by decide) (is := [id0]) (by show 1 ≤ 1000; decide) (by simp only [List.mem_cons, List.not_mem_nil, or_false]; rintro i rfl; exact okd0) hr ⟨#[77]⟩).mono ?_
    rintro e w' ⟨rfl, h1, h2⟩
    exact ⟨by rw [aw4], h1.mono (by decide), h2⟩)
  have KF : Hid (∀ W, SesE N R F B 2 (smpC A1 A2 A3 A4 c1 c2 c3 c4) 120 W (G4 A1 A2 A3 A4 c1 c2 c3 c4) → Calls Tryz.prog 38 #[.pointer (some ⟨B, 0, none⟩), aggD id0, .string ⟨#[89]⟩] W fun e w' => e = .returned (.int .i64 3) ∧ Below W.heap.size W w') := Lib.hid (fun W h => by
    refine (ses_free h (by decide) okd0 ⟨#[89]⟩).mono ?_
    rintro e w' ⟨rfl, h1⟩
    exact ⟨by rw [aw5], h1⟩)
  have KS3 : Hid (∀ W A cc, SesE N R F B 2 (smpC A1 A2 A3 A4 c1 c2 c3 c4) 120 W (G4 A1 A2 A3 A4 c1 c2 c3 c4) → RowIn (fun k => F k ∨ k < N) 4 encD W A [id0, id1] → Calls Tryz.prog 23 #[.pointer (some ⟨B, 0, none⟩), .slice A 2 cc, .string ⟨#[89]⟩, .int .i64 1] W fun e w' => e = .returned (.int .i64 7) ∧ SesE N R F B 2 (smpC A1 A2 A3 A4 c1 c2 c3 c4) 130 w' (G5 A1 A2 A3 A4 c1 c2 c3 c4) ∧ Lv N F W w') := Lib.hid (fun W A cc h hr => by
    refine (ses_sell h (by decide) (m := 1) (by decide) (is := [id0, id1]) (by show 2 ≤ 1000; decide) (by simp only [List.mem_cons, List.not_mem_nil, or_false]; rintro i (rfl | rfl); exact okd0; exact okd1) hr ⟨#[89]⟩).mono ?_
    rintro e w' ⟨rfl, h1, h2⟩
    exact ⟨by rw [aw6], h1.mono (by decide), h2⟩)
  have KL : Hid (∀ W, SesE N R F B 2 (smpC A1 A2 A3 A4 c1 c2 c3 c4) 130 W (G5 A1 A2 A3 A4 c1 c2 c3 c4) → Calls Tryz.prog 21 #[.pointer (some ⟨B, 0, none⟩), aggD id0, .string ⟨#[89]⟩] W fun e w' => e = .returned (.int .i64 3) ∧ Below W.heap.size W w') := Lib.hid (fun W h => by
    refine (ses_left h okd0 ⟨#[89]⟩).mono ?_
    rintro e w' ⟨rfl, h1⟩
    exact ⟨by rw [aw7], h1⟩)
  have KR : Hid (∀ W, SesE N R F B 2 (smpC A1 A2 A3 A4 c1 c2 c3 c4) 130 W (G5 A1 A2 A3 A4 c1 c2 c3 c4) → Calls Tryz.prog 29 #[.pointer (some ⟨B, 0, none⟩), aggD id0, .string ⟨#[51, 49, 57]⟩] W fun e w' => e = .returned (.int .i64 0) ∧ SesE N R F B 2 (smpC A1 A2 A3 A4 c1 c2 c3 c4) 130 w' (G6 A1 A2 A3 A4 c1 c2 c3 c4) ∧ Lv N F W w') := Lib.hid (fun W h => by
    refine (ses_resize h (by decide) okd0 (by unfold maxLen; decide)).mono ?_
    rintro e w' ⟨rfl, h1, h2⟩
    exact ⟨by rw [aw8], h1, h2⟩)
  have KE : Hid (∀ W, SesE N R F B 2 (smpC A1 A2 A3 A4 c1 c2 c3 c4) 130 W (G6 A1 A2 A3 A4 c1 c2 c3 c4) → Calls Tryz.prog 17 #[.pointer (some ⟨B, 0, none⟩), aggD id0] W fun e w' => e = .returned (.int .i64 2) ∧ Below W.heap.size W w') := Lib.hid (fun W h => by
    refine (ses_excess h okd0).mono ?_
    rintro e w' ⟨rfl, h1⟩
    exact ⟨by rw [aw9], h1⟩)
  have KC : Hid (∀ W, SesE N R F B 2 (smpC A1 A2 A3 A4 c1 c2 c3 c4) 130 W (G6 A1 A2 A3 A4 c1 c2 c3 c4) → Calls Tryz.prog 26 #[.pointer (some ⟨B, 0, none⟩), aggD id0] W fun e w' => ∃ v, e = .returned v ∧ CntL w' v [(⟨#[89]⟩, 0), (⟨#[77]⟩, 8)] ∧ Below W.heap.size W w') := Lib.hid (fun W h => by
    have := ses_counts h okd0
    rw [aw10] at this
    exact this)
  have KX1 : Hid (∀ W, SesE N R F B 2 (smpC A1 A2 A3 A4 c1 c2 c3 c4) 130 W (G6 A1 A2 A3 A4 c1 c2 c3 c4) → Calls Tryz.prog 36 #[.pointer (some ⟨B, 0, none⟩), aggD id0] W fun e w' => e = .returned (.int .i64 0) ∧ SesE N R F B 2 (smpC A1 A2 A3 A4 c1 c2 c3 c4) 130 w' (G7 A1 A2 A3 A4 c1 c2 c3 c4) ∧ Lv N F W w') := Lib.hid (fun W h => by
    refine (ses_close h okd0).mono ?_
    rintro e w' ⟨rfl, h1, h2⟩
    exact ⟨by rw [aw11], h1, h2⟩)
  have KX2 : Hid (∀ W, SesE N R F B 2 (smpC A1 A2 A3 A4 c1 c2 c3 c4) 130 W (G7 A1 A2 A3 A4 c1 c2 c3 c4) → Calls Tryz.prog 36 #[.pointer (some ⟨B, 0, none⟩), aggD id0] W fun e w' => e = .returned (.int .i64 10) ∧ SesE N R F B 2 (smpC A1 A2 A3 A4 c1 c2 c3 c4) 130 w' (G8 A1 A2 A3 A4 c1 c2 c3 c4) ∧ Lv N F W w') := Lib.hid (fun W h => by
    refine (ses_close h okd0).mono ?_
    rintro e w' ⟨rfl, h1, h2⟩
    exact ⟨by rw [aw12], h1, h2⟩)
  have KG : Hid (∀ W, SesE N R F B 2 (smpC A1 A2 A3 A4 c1 c2 c3 c4) 130 W (G8 A1 A2 A3 A4 c1 c2 c3 c4) → Calls Tryz.prog 39 #[.pointer (some ⟨B, 0, none⟩)] W fun e w' => ∃ A c, e = .returned (.slice A 1 c) ∧ Below W.heap.size W w') := Lib.hid (fun W h => by
    refine (ses_legs h (by decide)).mono ?_
    rintro e w' ⟨v, zs, rfl, hv, _, hz, hb⟩
    have e1 : zs = [id0] := hz.eq ⟨List.pairwise_singleton _ _, fun c => by
      rw [List.mem_singleton]
      show _ ↔ (G8 A1 A2 A3 A4 c1 c2 c3 c4 c).isSome = true
      unfold G8 G7 G6 G5 G4 G3 G2
      rw [clo_dom, clo_dom, rsz_dom, sel_dom, sel_dom, sel_dom, opn_same (by kernel_rfl)]
      unfold G1
      rw [opn_dom (by kernel_rfl)]
      simp [S0]⟩
    subst e1
    obtain ⟨A, c, rfl, _⟩ := hv
    exact ⟨A, c, rfl, hb⟩)
  generalize G8 A1 A2 A3 A4 c1 c2 c3 c4 = g8 at *
  generalize G7 A1 A2 A3 A4 c1 c2 c3 c4 = g7 at *
  generalize G6 A1 A2 A3 A4 c1 c2 c3 c4 = g6 at *
  generalize G5 A1 A2 A3 A4 c1 c2 c3 c4 = g5 at *
  generalize G4 A1 A2 A3 A4 c1 c2 c3 c4 = g4 at *
  generalize G3 A1 A2 A3 A4 c1 c2 c3 c4 = g3 at *
  generalize G2 A1 A2 A3 A4 c1 c2 c3 c4 = g2 at *
  generalize G1 A1 A2 A3 A4 c1 c2 c3 c4 = g1 at *
  go_upto_region 6 with (first
    | (go_at_call 18; with_reducible refine (KI0.out _).mono ?_; rintro e w9 ⟨rfl, hl⟩; have hLL := Lv.trans hLL (Lv.of hl); have hS := SesE.grow hS hl; clear hl)
    | (go_at_call 35; with_reducible refine (KO1.out _ hS).mono ?_; rintro e w9 ⟨rfl, hS', hl⟩; have hLL := Lv.trans hLL hl; have hS := hS'; clear hS' hl)
    | (go_at_call 35; with_reducible refine (KO2.out _ hS).mono ?_; rintro e w9 ⟨rfl, hS', hl⟩; have hLL := Lv.trans hLL hl; have hS := hS'; clear hS' hl)
    | (go_at_call 23; with_reducible refine (KS1.out _ _ _ hS (Lv.row hLL HRA.out)).mono ?_; rintro e w9 ⟨rfl, hS', hl⟩; have hLL := Lv.trans hLL hl; have hS := hS'; clear hS' hl)
    | (go_at_call 23; with_reducible refine (KS2.out _ _ _ hS (Lv.row hLL HRA.out)).mono ?_; rintro e w9 ⟨rfl, hS', hl⟩; have hLL := Lv.trans hLL hl; have hS := hS'; clear hS' hl)
    | (go_at_call 38; with_reducible refine (KF.out _ hS).mono ?_; rintro e w9 ⟨rfl, hl⟩; have hLL := Lv.trans hLL (Lv.of hl); have hS := SesE.grow hS hl; clear hl))
  go_upto_region 7 with (first
    | (go_at_call 18; with_reducible refine (KI0.out _).mono ?_; rintro e w9 ⟨rfl, hl⟩; have hLL := Lv.trans hLL (Lv.of hl); have hS := SesE.grow hS hl; clear hl)
    | (go_at_call 23; with_reducible refine (KS3.out _ _ _ hS (Lv.row hLL HRB.out)).mono ?_; rintro e w9 ⟨rfl, hS', hl⟩; have hLL := Lv.trans hLL hl; have hS := hS'; clear hS' hl)
    | (go_at_call 21; with_reducible refine (KL.out _ hS).mono ?_; rintro e w9 ⟨rfl, hl⟩; have hLL := Lv.trans hLL (Lv.of hl); have hS := SesE.grow hS hl; clear hl)
    | (go_at_call 29; with_reducible refine (KR.out _ hS).mono ?_; rintro e w9 ⟨rfl, hS', hl⟩; have hLL := Lv.trans hLL hl; have hS := hS'; clear hS' hl)
    | (go_at_call 17; with_reducible refine (KE.out _ hS).mono ?_; rintro e w9 ⟨rfl, hl⟩; have hLL := Lv.trans hLL (Lv.of hl); have hS := SesE.grow hS hl; clear hl))
  go_upto_region 8 with (first
    | (go_at_call 18; with_reducible refine (KI0.out _).mono ?_; rintro e w9 ⟨rfl, hl⟩; have hLL := Lv.trans hLL (Lv.of hl); have hS := SesE.grow hS hl; clear hl)
    | (go_at_call 26; with_reducible refine (KC.out _ hS).mono ?_; rintro e w9 ⟨v, rfl, hv, hl⟩; have hLL := Lv.trans hLL (Lv.of hl); have hS := SesE.grow hS hl; clear hl))
  obtain ⟨A, c, rfl, hv⟩ := hv
  rcases hv with hv | ⟨b, o, rfl, hlt, hv⟩
  · cases hv
  have y0 := hv 1 _ 0 _ rfl rfl
  have y1 := hv 1 _ 1 _ rfl rfl
  clear hv
  go_wp2_with (first
    | (go_at_call 18; with_reducible refine (KI0.out _).mono ?_; rintro e w9 ⟨rfl, hl⟩; have hLL := Lv.trans hLL (Lv.of hl); have hS := SesE.grow hS hl; clear hl)
    | (go_at_call 36; with_reducible refine (KX1.out _ hS).mono ?_; rintro e w9 ⟨rfl, hS', hl⟩; have hLL := Lv.trans hLL hl; have hS := hS'; clear hS' hl)
    | (go_at_call 36; with_reducible refine (KX2.out _ hS).mono ?_; rintro e w9 ⟨rfl, hS', hl⟩; have hLL := Lv.trans hLL hl; have hS := hS'; clear hS' hl)
    | (go_at_call 39; with_reducible refine (KG.out _ hS).mono ?_; rintro e w9 ⟨A9, c9, rfl, hl⟩; have hLL := Lv.trans hLL (Lv.of hl); clear hl))
  go_ret
  exact ⟨rfl, HW8.out.trans ((hLL.below HN8.out).mono HL1.out)⟩
end Go.Proofs.YtkghpapbifijcaaGreatDoor
