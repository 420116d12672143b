/- The law HoldNil. -/
import Derived.Test.YthillkbcbklhaaaHldK
namespace Go.Proofs.Ythillkbcbklhaaa
open Go.RowKit Go.Shelf Go.Maps Go.MapKept
set_option linter.unusedSimpArgs false
set_option linter.unusedVariables false

theorem hdr_cells (w : World) (x : Hd) : ∀ j u, (encH x)[j]? = some u → (w.alloc (.cells #[.int .i64 x.id, .slice x.A x.l.length x.c, .string x.cls, .int .i64 x.cnt, .int .i64 x.til] 31)).cell? ⟨w.heap.size, j, none⟩ = some u := by
  intro j u hj
  rw [show #[Value.int .i64 x.id, .slice x.A x.l.length x.c, .string x.cls, .int .i64 x.cnt, .int .i64 x.til] = (encH x).toArray from rfl, cells_new, List.getElem?_toArray]
  exact hj
set_option maxRecDepth 100000 in
set_option maxHeartbeats 8000000 in
theorem holdNil_walk (x : Hd) (n : Int) (w : World) : Calls Try.prog 6 #[aggH x, .int .i64 n] w fun e w' => e = .returned (.bool true) ∧ Below w.heap.size w w' := by
  have KA := Lib.hid awake16_any
  have hb0 := bel_alloc w (.cells #[.int .i64 x.id, .slice x.A x.l.length x.c, .string x.cls, .int .i64 x.cnt, .int .i64 x.til] 31)
  have q0 := hdr_cells w x 0 _ rfl
  have q1 := hdr_cells w x 1 _ rfl
  have q2 := hdr_cells w x 2 _ rfl
  have q3 := hdr_cells w x 3 _ rfl
  have q4 := hdr_cells w x 4 _ rfl
  have HB0 := Lib.hid hb0
  by_cases hl : 8 < x.l.length
  · have i1 : (8 : Int) < (x.l.length : Int) := by omega
    clear hb0
    go_enter Try.func6, Try.ntmps6
    go_upto_region 1 with fail
    generalize w.alloc (.cells #[.int .i64 x.id, .slice x.A x.l.length x.c, .string x.cls, .int .i64 x.cnt, .int .i64 x.til] 31) = w1 at *
    go_wp2_with (go_at_call 8; (with_reducible refine (KA.out _).mono ?_); rintro e w9 ⟨rfl, hb9⟩)
    go_ret
    exact ⟨rfl, HB0.out.trans (hb9.mono HB0.out.size)⟩
  · have i1 : ¬ (8 : Int) < (x.l.length : Int) := by omega
    have hz0 := bel_alloc (w.alloc (.cells #[.int .i64 x.id, .slice x.A x.l.length x.c, .string x.cls, .int .i64 x.cnt, .int .i64 x.til] 31)) (.cells #[.map none] hsT)
    have hz1 := bel_alloc ((w.alloc (.cells #[.int .i64 x.id, .slice x.A x.l.length x.c, .string x.cls, .int .i64 x.cnt, .int .i64 x.til] 31)).alloc (.cells #[.map none] hsT)) (.cells #[.pointer none, .pointer (some ⟨(w.alloc (.cells #[.int .i64 x.id, .slice x.A x.l.length x.c, .string x.cls, .int .i64 x.cnt, .int .i64 x.til] 31)).heap.size, 0, none⟩)] 25)
    have hz2 := hz0.trans (hz1.mono hz0.size)
    have v1 := bel_cell hz1 ((cells_new (w.alloc (.cells #[.int .i64 x.id, .slice x.A x.l.length x.c, .string x.cls, .int .i64 x.cnt, .int .i64 x.til] 31)) #[.map none] hsT 0).trans (show _ = some (Value.map none) from rfl))
    have r0 := (cells_new ((w.alloc (.cells #[.int .i64 x.id, .slice x.A x.l.length x.c, .string x.cls, .int .i64 x.cnt, .int .i64 x.til] 31)).alloc (.cells #[.map none] hsT)) #[.pointer none, .pointer (some ⟨(w.alloc (.cells #[.int .i64 x.id, .slice x.A x.l.length x.c, .string x.cls, .int .i64 x.cnt, .int .i64 x.til] 31)).heap.size, 0, none⟩)] 25 0).trans (show _ = some (Value.pointer none) from rfl)
    have r1 := (cells_new ((w.alloc (.cells #[.int .i64 x.id, .slice x.A x.l.length x.c, .string x.cls, .int .i64 x.cnt, .int .i64 x.til] 31)).alloc (.cells #[.map none] hsT)) #[.pointer none, .pointer (some ⟨(w.alloc (.cells #[.int .i64 x.id, .slice x.A x.l.length x.c, .string x.cls, .int .i64 x.cnt, .int .i64 x.til] 31)).heap.size, 0, none⟩)] 25 1).trans (show _ = some (Value.pointer (some ⟨(w.alloc (.cells #[.int .i64 x.id, .slice x.A x.l.length x.c, .string x.cls, .int .i64 x.cnt, .int .i64 x.til] 31)).heap.size, 0, none⟩)) from rfl)
    have hb2 := HB0.out.trans (hz2.mono HB0.out.size)
    have q0 := bel_cell hz2 q0
    have q1' := q1
    have q1 := bel_cell hz2 q1
    have q2 := bel_cell hz2 q2
    have q3 := bel_cell hz2 q3
    have q4 := bel_cell hz2 q4
    rw [World.size_alloc] at r0 r1 v1
    rw [World.size_alloc] at r0 r1
    have HB2 := Lib.hid hb2
    clear hb0 hz0 hz1 hz2 hb2
    go_enter Try.func6, Try.ntmps6
    go_upto_region 4 with fail
    try simp only [World.size_alloc]
    try simp only [World.size_alloc] at r0 r1 v1 q0 q1 q2 q3 q4 HB2
    clear q1'
    obtain ⟨w10, hw10⟩ : ∃ w10, w10 = ((w.alloc (.cells #[.int .i64 x.id, .slice x.A x.l.length x.c, .string x.cls, .int .i64 x.cnt, .int .i64 x.til] 31)).alloc (.cells #[.map none] hsT)).alloc (.cells #[.pointer none, .pointer (some ⟨w.heap.size + 1, 0, none⟩)] 25) := ⟨_, rfl⟩
    rw [← hw10] at r0 r1 v1 q0 q1 q2 q3 q4 HB2 ⊢
    clear hw10
    have HP : Hid (∀ (k : Nat), k < 2 → ∃ p, w10.cell? ⟨w.heap.size + 1 + 1, k, none⟩ = some (.pointer p) ∧ VoidH w10 p) := Lib.hid (fun k hk => by
      match k, hk with
      | 0, _ => exact ⟨none, r0, .inl rfl⟩
      | 1, _ => exact ⟨_, r1, .inr ⟨_, rfl, v1⟩⟩)
    have HY : Hid (∀ W, Below w10.heap.size w10 W → W.cell? ⟨w.heap.size, 0, none⟩ = some (.int .i64 x.id) ∧ W.cell? ⟨w.heap.size, 1, none⟩ = some (.slice x.A x.l.length x.c) ∧ W.cell? ⟨w.heap.size, 2, none⟩ = some (.string x.cls) ∧ W.cell? ⟨w.heap.size, 3, none⟩ = some (.int .i64 x.cnt) ∧ W.cell? ⟨w.heap.size, 4, none⟩ = some (.int .i64 x.til)) := Lib.hid (fun W hW => ⟨bel_cell hW q0, bel_cell hW q1, bel_cell hW q2, bel_cell hW q3, bel_cell hW q4⟩)
    clear r0 r1 v1 q0 q1 q2 q3 q4 HB0
    generalize w.heap.size + 1 + 1 = Lb at *
    go_wp2
    go_loopw [6] (fun vi wr => ∃ k : Nat, k ≤ 2 ∧ vi = .int .i64 k ∧ Below w10.heap.size w10 wr) (fun vi _ => 2 - (intOf vi).toNat)
    case atStart => exact ⟨0, Nat.zero_le _, rfl, Below.refl _ _⟩
    case round =>
      obtain ⟨k, hk, rfl, hW⟩ := hrel
      by_cases hlt : k < 2
      · obtain ⟨p, hp, hv⟩ := HP.out k hlt
        have j1 : (0 : Int) ≤ (k : Int) := by omega
        have j2 : (k : Int) < 2 := by omega
        have HV : Hid (∀ W, Below w10.heap.size w10 W → VoidH W p) := Lib.hid (fun W h => hv.more h)
        have c0 := bel_cell hW hp
        clear hv hp
        go_upto_region 9 with (first
            | (go_at_call 13; (with_reducible refine (drop_void p n _ (HV.out _ hW)).mono ?_); rintro e w9 ⟨rfl, hb9⟩; have hW := Below.trans hW (Below.mono hb9 hW.size); clear hb9))
        clear c0
        have hW := Below.trans hW (Below.mono (bel_alloc w9 (.cells #[.int .i64 0, .slice none 0 0, .string noB, .int .i64 0, .int .i64 0] hdT)) hW.size)
        have z0 : (w9.alloc (.cells #[.int .i64 0, .slice none 0 0, .string noB, .int .i64 0, .int .i64 0] hdT)).cell? ⟨w9.heap.size, 0, none⟩ = some (.int .i64 0) := (cells_new w9 _ hdT 0).trans rfl
        have hzz : (∀ W, Below (w9.alloc (.cells #[.int .i64 0, .slice none 0 0, .string noB, .int .i64 0, .int .i64 0] hdT)).heap.size (w9.alloc (.cells #[.int .i64 0, .slice none 0 0, .string noB, .int .i64 0, .int .i64 0] hdT)) W → W.cell? ⟨w9.heap.size, 0, none⟩ = some (.int .i64 0)) := fun W h => bel_cell h z0
        obtain ⟨y0, y1, y2, y3, y4⟩ := HY.out _ hW
        have hZ := Below.refl (w9.alloc (.cells #[.int .i64 0, .slice none 0 0, .string noB, .int .i64 0, .int .i64 0] hdT)).heap.size (w9.alloc (.cells #[.int .i64 0, .slice none 0 0, .string noB, .int .i64 0, .int .i64 0] hdT))
        go_wp2_with (first
            | (go_at_call 13; (with_reducible refine (drop_void p n _ (HV.out _ hW)).mono ?_); rintro e w8 ⟨rfl, hb9⟩; have hW := Below.trans hW (Below.mono hb9 hW.size); have hZ := Below.trans hZ (Below.mono hb9 hZ.size); have z0 := hzz _ hZ; obtain ⟨y0, y1, y2, y3, y4⟩ := HY.out _ hW; clear hb9)
            | (go_at_call 11; (with_reducible refine (put_void p x _ (HV.out _ hW)).mono ?_); rintro e w8 ⟨rfl, hb9⟩; have hW := Below.trans hW (Below.mono hb9 hW.size); have hZ := Below.trans hZ (Below.mono hb9 hZ.size); have z0 := hzz _ hZ; obtain ⟨y0, y1, y2, y3, y4⟩ := HY.out _ hW; clear hb9)
            | (go_at_call 16; (with_reducible refine (ext_void p n x.til _ (HV.out _ hW)).mono ?_); rintro e w8 ⟨rfl, rfl⟩)
            | (go_at_call 19; (with_reducible refine (exp_void p n _ (HV.out _ hW)).mono ?_); rintro e w8 ⟨rfl, rfl⟩)
            | (go_at_call 23; (with_reducible refine (all_void p _ (HV.out _ hW)).mono ?_); rintro e w8 ⟨rfl, rfl⟩)
            | (go_at_call 21; (with_reducible refine (held_void p ⟨noB, 0, 0, noB⟩ x.cls _ (HV.out _ hW)).mono ?_); rintro e w8 ⟨rfl, hb9⟩; have hW := Below.trans hW (Below.mono hb9 hW.size); have hZ := Below.trans hZ (Below.mono hb9 hZ.size); have z0 := hzz _ hZ; obtain ⟨y0, y1, y2, y3, y4⟩ := HY.out _ hW; clear hb9))
        go_roundw
        case rel => exact ⟨k + 1, by omega, by go_num, hW⟩
        case measure => simp [intOf]; omega
      · obtain rfl : k = 2 := by omega
        go_wp2_with (go_at_call 8; (with_reducible refine (KA.out _).mono ?_); rintro e w9 ⟨rfl, hb9⟩)
        go_ret
        have h1 := HB2.out.trans (Below.mono hW HB2.out.size)
        exact ⟨rfl, h1.trans (hb9.mono h1.size)⟩
end Go.Proofs.Ythillkbcbklhaaa
