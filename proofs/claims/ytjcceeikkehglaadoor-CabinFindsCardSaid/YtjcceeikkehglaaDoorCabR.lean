/- The examples of the law. -/
import Derived.Test.YtjcceeikkehglaaDoorCabQ
import Derived.Test.YtjcceeikkehglaaDoorCabD
import Derived.Test.YtjcceeikkehglaaDoorCabH
import Derived.Deep.CutRange
import Derived.Deep.CutBlock
namespace Go.Proofs.YtjcceeikkehglaaDoor
open Go.RowKit Go.Shelf
set_option linter.unusedSimpArgs false
set_option linter.unusedVariables false

theorem ok_sample (g b0 b1 : Nat) : (sampleF g b0 b1).l.length ≤ 8 ∧ ∀ b ∈ (sampleF g b0 b1).l, b.l.length ≤ 30 := by
  refine ⟨by (first | decide | exact Nat.le_of_ble_eq_true rfl | rfl), fun b hb => ?_⟩
  simp only [List.mem_cons, List.not_mem_nil, or_false] at hb
  rcases hb with rfl | rfl <;> (first | decide | exact Nat.le_of_ble_eq_true rfl | rfl)
theorem ok_other (g b0 : Nat) : (otherF g b0).l.length ≤ 8 ∧ ∀ b ∈ (otherF g b0).l, b.l.length ≤ 30 := by
  refine ⟨by (first | decide | exact Nat.le_of_ble_eq_true rfl | rfl), fun b hb => ?_⟩
  simp only [List.mem_cons, List.not_mem_nil, or_false] at hb
  subst hb; (first | decide | exact Nat.le_of_ble_eq_true rfl | rfl)
theorem int2 {w : World} {v : Value} {x y : Int} (h : IntR w v [x, y]) : ∃ b o c, v = .slice (some ⟨b, o, none⟩) 2 c ∧ w.cell? ⟨b, o, none⟩ = some (.int .i64 x) ∧ w.cell? ⟨b, o + 1, none⟩ = some (.int .i64 y) := by
  obtain ⟨A, c, rfl, h⟩ := h
  rcases h with h | ⟨b, o, rfl, _, hc⟩
  · cases h
  · have h0 := hc 0 x 0 _ rfl rfl
    have h1 := hc 1 y 0 _ rfl rfl
    exact ⟨b, o, c, rfl, by simpa using h0, by simpa using h1⟩
theorem samp_cells {W : World} {g b0 b1 : Nat} (h : CfAt W (sampleF g b0 b1)) : W.cell? ⟨g, 4, none⟩ = some (.string ⟨#[89]⟩) ∧ W.cell? ⟨g, 5, none⟩ = some (.int .i64 10) ∧ W.cell? ⟨g, 6, none⟩ = some (.int .i64 1) ∧ W.cell? ⟨g, 7, none⟩ = some (.slice (some ⟨b1, 0, none⟩) 2 2) := by
  obtain ⟨b, o, e, _, hc⟩ := row_get (k := 1) h.1 rfl
  simp only [Option.some.injEq, Addr.mk.injEq, and_true] at e
  obtain ⟨rfl, rfl⟩ := e
  exact ⟨hc 0 _ rfl, hc 1 _ rfl, hc 2 _ rfl, hc 3 _ rfl⟩
theorem samp_cab {W : World} {g b0 b1 : Nat} (h : CfAt W (sampleF g b0 b1)) : CbAt W ⟨⟨#[89]⟩, 10, 1, some ⟨b1, 0, none⟩, 2, [⟨⟨#[89]⟩, 3⟩, ⟨⟨#[77]⟩, 5⟩]⟩ := h.2 _ (by simp)
theorem k_limits (W : World) (g b0 b1 : Nat) (h : CfAt W (sampleF g b0 b1)) : Calls Tryd.prog 17 #[.agg #[.string ⟨#[89]⟩, .int .i64 10, .int .i64 1, .slice (some ⟨b1, 0, none⟩) 2 2]] W fun e w' => ∃ b o c, e = .returned (.slice (some ⟨b, o, none⟩) 2 c) ∧ (w'.cell? ⟨b, o, none⟩ = some (.int .i64 11) ∧ w'.cell? ⟨b, o + 1, none⟩ = some (.int .i64 8)) ∧ Below W.heap.size W w' := by
  have hP : LimP ⟨⟨#[89]⟩, 10, 1, some ⟨b1, 0, none⟩, 2, [⟨⟨#[89]⟩, 3⟩, ⟨⟨#[77]⟩, 5⟩]⟩ := ⟨by (first | decide | exact Nat.le_of_ble_eq_true rfl | rfl), by (first | decide | exact Nat.le_of_ble_eq_true rfl | rfl), fun x hx => by
    simp only [List.mem_cons, List.not_mem_nil, or_false] at hx
    rcases hx with rfl | rfl <;> (first | decide | exact Nat.le_of_ble_eq_true rfl | rfl)⟩
  refine (limits_any _ W (samp_cab h) hP).mono ?_
  rintro e w' ⟨v', rfl, hI, hb⟩
  have e1 : tab (limA ⟨⟨#[89]⟩, 10, 1, some ⟨b1, 0, none⟩, 2, [⟨⟨#[89]⟩, 3⟩, ⟨⟨#[77]⟩, 5⟩]⟩) 2 = [11, 8] := by kernel_rfl
  obtain ⟨b, o, c, rfl, h0, h1⟩ := int2 (show IntR w' v' [11, 8] from e1 ▸ hI)
  exact ⟨b, o, c, rfl, ⟨h0, h1⟩, hb⟩
theorem k_place (W : World) (g b0 b1 : Nat) (h : CfAt W (sampleF g b0 b1)) : Calls Tryd.prog 15 #[.agg #[.string ⟨#[55, 55, 55]⟩, .slice (some ⟨g, 0, none⟩) 2 2], .string ⟨#[77]⟩] W fun e w' => e = .returned (.tuple #[.int .i64 1, .int .i64 1, .bool true]) ∧ Below W.heap.size W w' := by
  have h1 := place_any ⟨#[55, 55, 55]⟩ _ 2 (sampleF g b0 b1).l ⟨#[77]⟩ W h (ok_sample g b0 b1).1 (ok_sample g b0 b1).2
  rw [show plI (sampleF g b0 b1).l ⟨#[77]⟩ = 1 by kernel_rfl, show plK (sampleF g b0 b1).l ⟨#[77]⟩ = 1 by kernel_rfl, show plB (sampleF g b0 b1).l ⟨#[77]⟩ = true by kernel_rfl] at h1
  exact h1
theorem k_likeM (W : World) (g b0 b1 h c0 : Nat) (h1 : CfAt W (sampleF g b0 b1)) (h2 : CfAt W (otherF h c0)) : Calls Tryd.prog 21 #[.agg #[.string ⟨#[55, 55, 55]⟩, .slice (some ⟨g, 0, none⟩) 2 2], .agg #[.string ⟨#[51, 50, 48]⟩, .slice (some ⟨h, 0, none⟩) 1 1], .string ⟨#[77]⟩] W fun e w' => e = .returned (.tuple #[.string ⟨#[66]⟩, .bool true]) ∧ Below W.heap.size W w' := by
  have h3 := like_any ⟨#[55, 55, 55]⟩ ⟨#[51, 50, 48]⟩ _ _ 2 1 (sampleF g b0 b1).l (otherF h c0).l ⟨#[77]⟩ W h1 h2 (ok_sample g b0 b1).1 (ok_other h c0).1 (ok_sample g b0 b1).2 (ok_other h c0).2
  rw [show lkR (sampleF g b0 b1).l (otherF h c0).l ⟨#[77]⟩ = (⟨#[66]⟩, true) by kernel_rfl] at h3
  exact h3
theorem k_likeF (W : World) (g b0 b1 h c0 : Nat) (h1 : CfAt W (sampleF g b0 b1)) (h2 : CfAt W (otherF h c0)) : Calls Tryd.prog 21 #[.agg #[.string ⟨#[55, 55, 55]⟩, .slice (some ⟨g, 0, none⟩) 2 2], .agg #[.string ⟨#[51, 50, 48]⟩, .slice (some ⟨h, 0, none⟩) 1 1], .string ⟨#[70]⟩] W fun e w' => e = .returned (.tuple #[.string ⟨#[66]⟩, .bool true]) ∧ Below W.heap.size W w' := by
  have h3 := like_any ⟨#[55, 55, 55]⟩ ⟨#[51, 50, 48]⟩ _ _ 2 1 (sampleF g b0 b1).l (otherF h c0).l ⟨#[70]⟩ W h1 h2 (ok_sample g b0 b1).1 (ok_other h c0).1 (ok_sample g b0 b1).2 (ok_other h c0).2
  rw [show lkR (sampleF g b0 b1).l (otherF h c0).l ⟨#[70]⟩ = (⟨#[66]⟩, true) by kernel_rfl] at h3
  exact h3
theorem k_auth (W : World) (b1 : Nat) : Calls Tryd.prog 19 #[.agg #[.string ⟨#[89]⟩, .int .i64 10, .int .i64 1, .slice (some ⟨b1, 0, none⟩) 2 2]] W fun e w' => e = .returned (.int .i64 11) ∧ Below W.heap.size W w' := auth_any ⟨⟨#[89]⟩, 10, 1, some ⟨b1, 0, none⟩, 2, [⟨⟨#[89]⟩, 3⟩, ⟨⟨#[77]⟩, 5⟩]⟩ W (by (first | decide | exact Nat.le_of_ble_eq_true rfl | rfl))
theorem k_find (W : World) (g b0 b1 h c0 q : Nat) (hr : RowL 2 encCf W (.slice (some ⟨q, 0, none⟩) 2 2) [otherF h c0, sampleF g b0 b1]) (h1 : CfAt W (sampleF g b0 b1)) (h2 : CfAt W (otherF h c0)) : Calls Tryd.prog 12 #[.slice (some ⟨q, 0, none⟩) 2 2, .string ⟨#[55, 55, 55]⟩] W fun e w' => ∃ (s : ByteArray) (A' : Option Addr) (c' : Nat), e = .returned (.tuple #[.agg #[.string s, .slice A' 2 c'], .bool true]) ∧ Below W.heap.size W w' := by
  have hok : ∀ f ∈ [otherF h c0, sampleF g b0 b1], OkCf f := fun f hf => by
    simp only [List.mem_cons, List.not_mem_nil, or_false] at hf
    rcases hf with rfl | rfl
    · refine ⟨by (first | decide | exact Nat.le_of_ble_eq_true rfl | rfl), by (first | decide | exact Nat.le_of_ble_eq_true rfl | rfl), fun b hb => ?_⟩
      simp only [List.mem_cons, List.not_mem_nil, or_false] at hb
      subst hb
      refine ⟨by (first | decide | exact Nat.le_of_ble_eq_true rfl | rfl), by (first | decide | exact Nat.le_of_ble_eq_true rfl | rfl), fun x hx => ?_⟩
      simp only [List.mem_cons, List.not_mem_nil, or_false] at hx
      rcases hx with rfl | rfl <;> exact ⟨by (first | decide | exact Nat.le_of_ble_eq_true rfl | rfl), by (first | decide | exact Nat.le_of_ble_eq_true rfl | rfl), by (first | decide | exact Nat.le_of_ble_eq_true rfl | rfl)⟩
    · refine ⟨by (first | decide | exact Nat.le_of_ble_eq_true rfl | rfl), by (first | decide | exact Nat.le_of_ble_eq_true rfl | rfl), fun b hb => ?_⟩
      simp only [List.mem_cons, List.not_mem_nil, or_false] at hb
      rcases hb with rfl | rfl
      · refine ⟨by (first | decide | exact Nat.le_of_ble_eq_true rfl | rfl), by (first | decide | exact Nat.le_of_ble_eq_true rfl | rfl), fun x hx => ?_⟩
        simp only [List.mem_cons, List.not_mem_nil, or_false] at hx
        subst hx; exact ⟨by (first | decide | exact Nat.le_of_ble_eq_true rfl | rfl), by (first | decide | exact Nat.le_of_ble_eq_true rfl | rfl), by (first | decide | exact Nat.le_of_ble_eq_true rfl | rfl)⟩
      · refine ⟨by (first | decide | exact Nat.le_of_ble_eq_true rfl | rfl), by (first | decide | exact Nat.le_of_ble_eq_true rfl | rfl), fun x hx => ?_⟩
        simp only [List.mem_cons, List.not_mem_nil, or_false] at hx
        rcases hx with rfl | rfl <;> exact ⟨by (first | decide | exact Nat.le_of_ble_eq_true rfl | rfl), by (first | decide | exact Nat.le_of_ble_eq_true rfl | rfl), by (first | decide | exact Nat.le_of_ble_eq_true rfl | rfl)⟩
  have h3 := find_any (some ⟨q, 0, none⟩) 2 [otherF h c0, sampleF g b0 b1] ⟨#[55, 55, 55]⟩ W ⟨hr, fun f hf => by
    simp only [List.mem_cons, List.not_mem_nil, or_false] at hf
    rcases hf with rfl | rfl
    · exact h2
    · exact h1⟩ (by (first | decide | exact Nat.le_of_ble_eq_true rfl | rfl)) hok
  rw [show findQ [otherF h c0, sampleF g b0 b1] ⟨#[55, 55, 55]⟩ = some (sampleF g b0 b1) by kernel_rfl] at h3
  refine h3.mono ?_
  rintro e w' ⟨⟨f, rfl, _, hs⟩, hb⟩
  have hl : f.l.length = 2 := sam_len hs.l
  refine ⟨f.equip, f.A, f.c, ?_, hb⟩
  unfold aggCf
  rw [hl]
  rfl
abbrev badF (x y z : Nat) : Cf := ⟨⟨#[51, 50, 48]⟩, some ⟨y, 0, none⟩, 1, [⟨⟨#[89]⟩, 10, 0, some ⟨z, 0, none⟩, 2, [⟨⟨#[89]⟩, 3⟩, ⟨⟨#[89]⟩, 2⟩]⟩]⟩
theorem k_bad (x y z : Nat) : conF [badF x y z] 1 = [(6, ⟨#[99, 111, 110, 102, 105, 103, 32, 48, 32, 99, 97, 98, 105, 110, 32, 48, 32, 99, 108, 97, 115, 115, 32, 49]⟩), (2, ⟨#[99, 111, 110, 102, 105, 103, 32, 48, 32, 99, 97, 98, 105, 110, 32, 48, 32, 99, 108, 97, 115, 115, 32, 49]⟩)] := by kernel_rfl
theorem k_check (W : World) (x y z : Nat) (h0 : RowL 2 encCf W (.slice (some ⟨x, 0, none⟩) 1 1) [badF x y z]) (h1 : RowL 4 encCb W (.slice (some ⟨y, 0, none⟩) 1 1) (badF x y z).l) (h2 : ClL W (.slice (some ⟨z, 0, none⟩) 2 2) [⟨⟨#[89]⟩, 3⟩, ⟨⟨#[89]⟩, 2⟩]) : Calls Tryd.prog 10 #[.slice (some ⟨x, 0, none⟩) 1 1] W fun e w' => ∃ v, e = .returned v ∧ FltL w' v [(6, ⟨#[99, 111, 110, 102, 105, 103, 32, 48, 32, 99, 97, 98, 105, 110, 32, 48, 32, 99, 108, 97, 115, 115, 32, 49]⟩), (2, ⟨#[99, 111, 110, 102, 105, 103, 32, 48, 32, 99, 97, 98, 105, 110, 32, 48, 32, 99, 108, 97, 115, 115, 32, 49]⟩)] ∧ Below W.heap.size W w' := by
  have h3 := check_any (some ⟨x, 0, none⟩) 1 [badF x y z] W ⟨h0, fun f hf => by
    rw [List.mem_singleton] at hf
    subst hf
    refine ⟨h1, fun b hb => ?_⟩
    rw [List.mem_singleton] at hb
    subst hb
    exact h2⟩ (by (first | decide | exact Nat.le_of_ble_eq_true rfl | rfl)) (fun f hf => by
    rw [List.mem_singleton] at hf
    subst hf
    refine ⟨by (first | decide | exact Nat.le_of_ble_eq_true rfl | rfl), by (first | decide | exact Nat.le_of_ble_eq_true rfl | rfl), fun b hb => ?_⟩
    rw [List.mem_singleton] at hb
    subst hb
    refine ⟨by (first | decide | exact Nat.le_of_ble_eq_true rfl | rfl), by (first | decide | exact Nat.le_of_ble_eq_true rfl | rfl), fun x hx => ?_⟩
    simp only [List.mem_cons, List.not_mem_nil, or_false] at hx
    rcases hx with rfl | rfl <;> exact ⟨by (first | decide | exact Nat.le_of_ble_eq_true rfl | rfl), by (first | decide | exact Nat.le_of_ble_eq_true rfl | rfl), by (first | decide | exact Nat.le_of_ble_eq_true rfl | rfl)⟩)
  refine h3.mono ?_
  rintro e w' ⟨v, rfl, hO, hb⟩
  have hO' := hO.rowL rtF.len
  exact ⟨v, rfl, (k_bad x y z) ▸ hO', hb⟩
set_option maxRecDepth 100000 in
set_option maxHeartbeats 16000000 in
theorem awake_any (w : World) : Calls Tryd.prog 8 #[] w fun e w' => e = .returned (.bool true) ∧ Below w.heap.size w w' := by
  have KS := Lib.hid sample_any
  have KO := Lib.hid other_any
  have hfd : ∀ (a : Value) (g : Nat) (W : World), (Instr.field cfT (.agg #[a, .slice (some ⟨g, 0, none⟩) 2 2]) 1).run Tryd.prog W = .ok (.slice (some ⟨g, 0, none⟩) 2 2) W := fun a g W => by kernel_rfl
  go_enter Tryd.func8, Tryd.ntmps8
  go_upto_region 2 with (first
    | (go_at_call 23; refine (KS.out _).mono ?_; rintro e wa ⟨g, b0, b1, rfl, hA, hba⟩; obtain ⟨x0, x1, x2, x3⟩ := samp_cells hA)
    | (go_at_call 17; refine (k_limits _ g b0 b1 hA).mono ?_; rintro e wb ⟨b, o, c, rfl, ⟨y0, y1⟩, hbb⟩))
  have HB : Hid (Below w.heap.size w wb) := Lib.hid (hba.trans (hbb.mono hba.size))
  clear x0 x1 x2 x3 hA hba hbb
  go_upto_region 3 with (first
    | (go_at_call 23; refine (KS.out _).mono ?_; rintro e wc ⟨g, b0, b1, rfl, hA, hbc⟩)
    | (go_at_call 15; refine (k_place _ g b0 b1 hA).mono ?_; rintro e wd ⟨rfl, hbd⟩))
  have y0 := bel_cell hbd (bel_cell hbc y0)
  have y1 := bel_cell hbd (bel_cell hbc y1)
  have HB : Hid (Below w.heap.size w wd) := Lib.hid ((HB.out.trans (hbc.mono HB.out.size)).trans (hbd.mono (Nat.le_trans HB.out.size hbc.size)))
  clear hA hbc hbd
  go_upto_region 4 with (first
    | (go_at_call 23; refine (KS.out _).mono ?_; rintro e we ⟨g, b0, b1, rfl, hA, hbe⟩)
    | (go_at_call 24; refine (KO.out _).mono ?_; rintro e wf ⟨h, c0, rfl, hA2, hbf⟩; have hA1 := CfAt.more hA hbf)
    | (go_at_call 21; refine (k_likeM _ g b0 b1 h c0 hA1 hA2).mono ?_; rintro e wg ⟨rfl, hbg⟩))
  have y0 := bel_cell hbg (bel_cell hbf (bel_cell hbe y0))
  have y1 := bel_cell hbg (bel_cell hbf (bel_cell hbe y1))
  have HB : Hid (Below w.heap.size w wg) := Lib.hid (by
    have h1 := HB.out.trans (hbe.mono HB.out.size)
    have h2 := h1.trans (hbf.mono h1.size)
    exact h2.trans (hbg.mono h2.size))
  clear hA hA1 hA2 hbe hbf hbg
  go_upto_region 5 with (first
    | (go_at_call 23; refine (KS.out _).mono ?_; rintro e we ⟨g, b0, b1, rfl, hA, hbe⟩)
    | (go_at_call 24; refine (KO.out _).mono ?_; rintro e wf ⟨h, c0, rfl, hA2, hbf⟩; have hA1 := CfAt.more hA hbf)
    | (go_at_call 21; refine (k_likeF _ g b0 b1 h c0 hA1 hA2).mono ?_; rintro e wh ⟨rfl, hbg⟩))
  have y0 := bel_cell hbg (bel_cell hbf (bel_cell hbe y0))
  have y1 := bel_cell hbg (bel_cell hbf (bel_cell hbe y1))
  have HB : Hid (Below w.heap.size w wh) := Lib.hid (by
    have h1 := HB.out.trans (hbe.mono HB.out.size)
    have h2 := h1.trans (hbf.mono h1.size)
    exact h2.trans (hbg.mono h2.size))
  clear hA hA1 hA2 hbe hbf hbg
  go_upto_region 6 with (first
    | (go_at_call 24; refine (KO.out _).mono ?_; rintro e wi ⟨h, c0, rfl, hA2, hbi⟩)
    | (go_at_call 23; refine (KS.out _).mono ?_; rintro e wj ⟨g, b0, b1, rfl, hA, hbj⟩; have hA2 := CfAt.more hA2 hbj; have hbk := bel_alloc wj (.cells #[.string ⟨#[51, 50, 48]⟩, .slice (some ⟨h, 0, none⟩) 1 1, .string ⟨#[55, 55, 55]⟩, .slice (some ⟨g, 0, none⟩) 2 2] cfT); have hrw := RowL.new (enc := encCf) (sz := 2) wj [otherF h c0, sampleF g b0 b1] cfT (fun _ => rfl) (cs := #[.string ⟨#[51, 50, 48]⟩, .slice (some ⟨h, 0, none⟩) 1 1, .string ⟨#[55, 55, 55]⟩, .slice (some ⟨g, 0, none⟩) 2 2]) rfl 2; have hA := CfAt.more hA hbk; have hA2 := CfAt.more hA2 hbk)
    | (go_at_call 12; refine (k_find _ g b0 b1 h c0 _ hrw hA hA2).mono ?_; rintro e wl ⟨sf, fA, fc, rfl, hbl⟩))
  have hN := heap_alloc_new wl (.cells #[.string sf, .slice fA 2 fc] cfT)
  have hbm := bel_alloc wl (.cells #[.string sf, .slice fA 2 fc] cfT)
  have y0 := bel_cell hbm (bel_cell hbl (bel_cell hbk (bel_cell hbj (bel_cell hbi y0))))
  have y1 := bel_cell hbm (bel_cell hbl (bel_cell hbk (bel_cell hbj (bel_cell hbi y1))))
  have HB : Hid (Below w.heap.size w (wl.alloc (.cells #[.string sf, .slice fA 2 fc] cfT))) := Lib.hid (by
    have h1 := HB.out.trans (hbi.mono HB.out.size)
    have h2 := h1.trans (hbj.mono h1.size)
    have h3 := h2.trans (hbk.mono h2.size)
    have h4 := h3.trans (hbl.mono h3.size)
    exact h4.trans (hbm.mono h4.size))
  obtain ⟨N, hNe⟩ : ∃ N, N = wl.heap.size := ⟨_, rfl⟩
  rw [← hNe] at hN ⊢
  clear hA hA2 hbi hbj hbk hbl hbm hrw hNe
  generalize wl.alloc (.cells #[.string sf, .slice fA 2 fc] cfT) = wm at *
  obtain ⟨_, z1, _, _⟩ := row2_cells hN
  clear hN
  have s1 : ClL (wm.alloc (.cells #[.string ⟨#[89]⟩, .int .i64 3, .string ⟨#[89]⟩, .int .i64 2] clT)) (.slice (some ⟨wm.heap.size, 0, none⟩) 2 2) [⟨⟨#[89]⟩, 3⟩, ⟨⟨#[89]⟩, 2⟩] := RowL.new (enc := encCl) (sz := 2) wm [⟨⟨#[89]⟩, 3⟩, ⟨⟨#[89]⟩, 2⟩] clT (fun _ => rfl) (cs := #[.string ⟨#[89]⟩, .int .i64 3, .string ⟨#[89]⟩, .int .i64 2]) rfl 2
  have t1 := bel_alloc wm (.cells #[.string ⟨#[89]⟩, .int .i64 3, .string ⟨#[89]⟩, .int .i64 2] clT)
  have t2 := bel_alloc (wm.alloc (.cells #[.string ⟨#[89]⟩, .int .i64 3, .string ⟨#[89]⟩, .int .i64 2] clT)) (.cells #[.string ⟨#[89]⟩, .int .i64 10, .int .i64 0, .slice (some ⟨wm.heap.size, 0, none⟩) 2 2] cbT)
  have t3 := bel_alloc ((wm.alloc (.cells #[.string ⟨#[89]⟩, .int .i64 3, .string ⟨#[89]⟩, .int .i64 2] clT)).alloc (.cells #[.string ⟨#[89]⟩, .int .i64 10, .int .i64 0, .slice (some ⟨wm.heap.size, 0, none⟩) 2 2] cbT)) (.cells #[.string ⟨#[51, 50, 48]⟩, .slice (some ⟨wm.heap.size + 1, 0, none⟩) 1 1] cfT)
  have s2 : RowL 4 encCb ((wm.alloc (.cells #[.string ⟨#[89]⟩, .int .i64 3, .string ⟨#[89]⟩, .int .i64 2] clT)).alloc (.cells #[.string ⟨#[89]⟩, .int .i64 10, .int .i64 0, .slice (some ⟨wm.heap.size, 0, none⟩) 2 2] cbT)) (.slice (some ⟨wm.heap.size + 1, 0, none⟩) 1 1) (badF (wm.heap.size + 1 + 1) (wm.heap.size + 1) wm.heap.size).l := by
    have h := RowL.new (enc := encCb) (sz := 4) (wm.alloc (.cells #[.string ⟨#[89]⟩, .int .i64 3, .string ⟨#[89]⟩, .int .i64 2] clT)) (badF (wm.heap.size + 1 + 1) (wm.heap.size + 1) wm.heap.size).l cbT (fun _ => rfl) (cs := #[.string ⟨#[89]⟩, .int .i64 10, .int .i64 0, .slice (some ⟨wm.heap.size, 0, none⟩) 2 2]) rfl 1
    rw [World.size_alloc] at h
    exact h
  have s3 : RowL 2 encCf (((wm.alloc (.cells #[.string ⟨#[89]⟩, .int .i64 3, .string ⟨#[89]⟩, .int .i64 2] clT)).alloc (.cells #[.string ⟨#[89]⟩, .int .i64 10, .int .i64 0, .slice (some ⟨wm.heap.size, 0, none⟩) 2 2] cbT)).alloc (.cells #[.string ⟨#[51, 50, 48]⟩, .slice (some ⟨wm.heap.size + 1, 0, none⟩) 1 1] cfT)) (.slice (some ⟨wm.heap.size + 1 + 1, 0, none⟩) 1 1) [badF (wm.heap.size + 1 + 1) (wm.heap.size + 1) wm.heap.size] := by
    have h := RowL.new (enc := encCf) (sz := 2) ((wm.alloc (.cells #[.string ⟨#[89]⟩, .int .i64 3, .string ⟨#[89]⟩, .int .i64 2] clT)).alloc (.cells #[.string ⟨#[89]⟩, .int .i64 10, .int .i64 0, .slice (some ⟨wm.heap.size, 0, none⟩) 2 2] cbT)) [badF (wm.heap.size + 1 + 1) (wm.heap.size + 1) wm.heap.size] cfT (fun _ => rfl) (cs := #[.string ⟨#[51, 50, 48]⟩, .slice (some ⟨wm.heap.size + 1, 0, none⟩) 1 1]) rfl 1
    rw [World.size_alloc, World.size_alloc] at h
    exact h
  have s1 := RowL.more (RowL.more s1 t2) t3
  have s2 := RowL.more s2 t3
  have KC := Lib.hid (k_check (((wm.alloc (.cells #[.string ⟨#[89]⟩, .int .i64 3, .string ⟨#[89]⟩, .int .i64 2] clT)).alloc (.cells #[.string ⟨#[89]⟩, .int .i64 10, .int .i64 0, .slice (some ⟨wm.heap.size, 0, none⟩) 2 2] cbT)).alloc (.cells #[.string ⟨#[51, 50, 48]⟩, .slice (some ⟨wm.heap.size + 1, 0, none⟩) 1 1] cfT)) (wm.heap.size + 1 + 1) (wm.heap.size + 1) wm.heap.size s3 s2 s1)
  have t12 : Below wm.heap.size wm (((wm.alloc (.cells #[.string ⟨#[89]⟩, .int .i64 3, .string ⟨#[89]⟩, .int .i64 2] clT)).alloc (.cells #[.string ⟨#[89]⟩, .int .i64 10, .int .i64 0, .slice (some ⟨wm.heap.size, 0, none⟩) 2 2] cbT)).alloc (.cells #[.string ⟨#[51, 50, 48]⟩, .slice (some ⟨wm.heap.size + 1, 0, none⟩) 1 1] cfT)) := by
    have h := t1.trans (t2.mono t1.size)
    exact h.trans (t3.mono h.size)
  clear s1 s2 s3 t1 t2 t3
  go_upto_region 7 with (go_at_call 10; refine KC.out.mono ?_; rintro e wn ⟨v2, rfl, hF, hbn⟩)
  have hmn : Below wm.heap.size wm wn := t12.trans (hbn.mono t12.size)
  have y0 := bel_cell hmn y0
  have y1 := bel_cell hmn y1
  have z1 := bel_cell hmn z1
  have HB : Hid (Below w.heap.size w wn) := Lib.hid (HB.out.trans (hmn.mono HB.out.size))
  clear t12 hbn hmn KC
  have hbo := bel_alloc wn (.cells #[.int .i64 6, .string ⟨#[99, 111, 110, 102, 105, 103, 32, 48, 32, 99, 97, 98, 105, 110, 32, 48, 32, 99, 108, 97, 115, 115, 32, 49]⟩, .int .i64 2, .string ⟨#[99, 111, 110, 102, 105, 103, 32, 48, 32, 99, 97, 98, 105, 110, 32, 48, 32, 99, 108, 97, 115, 115, 32, 49]⟩] fltT)
  have hF2 := RowL.new (enc := encF) (sz := 2) wn [((6 : Int), (⟨#[99, 111, 110, 102, 105, 103, 32, 48, 32, 99, 97, 98, 105, 110, 32, 48, 32, 99, 108, 97, 115, 115, 32, 49]⟩ : ByteArray)), (2, ⟨#[99, 111, 110, 102, 105, 103, 32, 48, 32, 99, 97, 98, 105, 110, 32, 48, 32, 99, 108, 97, 115, 115, 32, 49]⟩)] fltT (fun _ => rfl) (cs := #[.int .i64 6, .string ⟨#[99, 111, 110, 102, 105, 103, 32, 48, 32, 99, 97, 98, 105, 110, 32, 48, 32, 99, 108, 97, 115, 115, 32, 49]⟩, .int .i64 2, .string ⟨#[99, 111, 110, 102, 105, 103, 32, 48, 32, 99, 97, 98, 105, 110, 32, 48, 32, 99, 108, 97, 115, 115, 32, 49]⟩]) rfl 2
  have y0 := bel_cell hbo y0
  have y1 := bel_cell hbo y1
  have z1 := bel_cell hbo z1
  have hF := RowL.more hF hbo
  have KSF := Lib.hid (sameF_any v2 (.slice (some ⟨wn.heap.size, 0, none⟩) 2 2) [((6 : Int), (⟨#[99, 111, 110, 102, 105, 103, 32, 48, 32, 99, 97, 98, 105, 110, 32, 48, 32, 99, 108, 97, 115, 115, 32, 49]⟩ : ByteArray)), (2, ⟨#[99, 111, 110, 102, 105, 103, 32, 48, 32, 99, 97, 98, 105, 110, 32, 48, 32, 99, 108, 97, 115, 115, 32, 49]⟩)] _ hF hF2 (by (first | decide | exact Nat.le_of_ble_eq_true rfl | rfl)))
  have HB : Hid (Below w.heap.size w (wn.alloc (.cells #[.int .i64 6, .string ⟨#[99, 111, 110, 102, 105, 103, 32, 48, 32, 99, 97, 98, 105, 110, 32, 48, 32, 99, 108, 97, 115, 115, 32, 49]⟩, .int .i64 2, .string ⟨#[99, 111, 110, 102, 105, 103, 32, 48, 32, 99, 97, 98, 105, 110, 32, 48, 32, 99, 108, 97, 115, 115, 32, 49]⟩] fltT))) := Lib.hid (HB.out.trans (hbo.mono HB.out.size))
  go_upto_region 8 with fail
  clear hF hF2 hbo
  generalize wn.alloc (.cells #[.int .i64 6, .string ⟨#[99, 111, 110, 102, 105, 103, 32, 48, 32, 99, 97, 98, 105, 110, 32, 48, 32, 99, 108, 97, 115, 115, 32, 49]⟩, .int .i64 2, .string ⟨#[99, 111, 110, 102, 105, 103, 32, 48, 32, 99, 97, 98, 105, 110, 32, 48, 32, 99, 108, 97, 115, 115, 32, 49]⟩] fltT) = wp at *
  go_wp2_with (first
    | (go_at_call 9; refine KSF.out.mono ?_; rintro e wq ⟨rfl, hbq⟩)
    | (go_at_call 23; refine (KS.out _).mono ?_; rintro e wr ⟨g, b0, b1, rfl, hA, hbr⟩; obtain ⟨x0, x1, x2, x3⟩ := samp_cells hA)
    | (go_at_call 19; refine (k_auth _ b1).mono ?_; rintro e ws ⟨rfl, hbs⟩))
  go_ret
  exact ⟨rfl, by
    have h1 := HB.out.trans (Below.mono hbq HB.out.size)
    have h2 := h1.trans (hbr.mono h1.size)
    exact h2.trans (hbs.mono h2.size)⟩
end Go.Proofs.YtjcceeikkehglaaDoor
