/- The law StockNone. -/
import Derived.Test.YtkghpapbifijcaaGreatDoorStkA3
namespace Go.Proofs.YtkghpapbifijcaaGreatDoor
open Go.RowKit Go.Shelf Go.Maps Go.MapKept
set_option linter.unusedSimpArgs false
set_option linter.unusedVariables false

set_option maxRecDepth 100000 in
set_option maxHeartbeats 8000000 in
theorem stockNone_walk (A : Option Addr) (c : Nat) (l : List Cf) (i : Lid) (s : ByteArray) (n : Int) (w : World) (hv : CfL w (.slice A l.length c) l) (hok : SmallP l → ∀ f ∈ l, OkCf f) (hcap : l.length ≤ c) :
    Calls Tryz.prog 9 #[.slice A l.length c, aggD i, .string s, .int .i64 n] w fun e w' => e = .returned (.bool true) ∧ Below w.heap.size w w' := by
  have KA := Lib.hid awake15_any
  have hb5 := bel_alloc w (.cells #[.string i.car, .int .i64 i.num, .int .i64 i.day, .string i.frm] lidT)
  have q0 := (cells_new w #[.string i.car, .int .i64 i.num, .int .i64 i.day, .string i.frm] lidT 0).trans (show _ = some (Value.string i.car) from rfl)
  have q1 := (cells_new w #[.string i.car, .int .i64 i.num, .int .i64 i.day, .string i.frm] lidT 1).trans (show _ = some (Value.int .i64 i.num) from rfl)
  have q2 := (cells_new w #[.string i.car, .int .i64 i.num, .int .i64 i.day, .string i.frm] lidT 2).trans (show _ = some (Value.int .i64 i.day) from rfl)
  have q3 := (cells_new w #[.string i.car, .int .i64 i.num, .int .i64 i.day, .string i.frm] lidT 3).trans (show _ = some (Value.string i.frm) from rfl)
  have hv5 : CfL (w.alloc (.cells #[.string i.car, .int .i64 i.num, .int .i64 i.day, .string i.frm] lidT)) (.slice A l.length c) l := hv.more hb5
  have KS := Lib.hid (small_any A c l (w.alloc (.cells #[.string i.car, .int .i64 i.num, .int .i64 i.day, .string i.frm] lidT)) hv5)
  have HB5 := Lib.hid hb5
  by_cases hs : SmallP l
  · rw [small_yes hs] at KS
    have hn := hs.1
    have hok := hok hs
    have KN := Lib.hid (new_any A c l (w.alloc (.cells #[.string i.car, .int .i64 i.num, .int .i64 i.day, .string i.frm] lidT)) hv5 hs hok hcap)
    have KR := Lib.hid (fun W (h : Below ((w.alloc (.cells #[.string i.car, .int .i64 i.num, .int .i64 i.day, .string i.frm] lidT))).heap.size (w.alloc (.cells #[.string i.car, .int .i64 i.num, .int .i64 i.day, .string i.frm] lidT)) W) => rcheck_any A c l W (hv5.more h) hn hok)
    have HLE : Hid ((conF l l.length).length ≤ 1000000) := Lib.hid (by have := conF_le l hok l.length; omega)
    clear hs hok hv hv5 hb5
    unfold NewR at KN
    by_cases h0 : conF l l.length = []
    · rw [h0] at KN KR
      have KN2 : Hid (Calls Tryz.prog 12 #[.slice A l.length c] (w.alloc (.cells #[.string i.car, .int .i64 i.num, .int .i64 i.day, .string i.frm] lidT)) fun e w' => ∃ B, e = .returned (.tuple #[.pointer (some ⟨B, 0, none⟩), .slice none 0 0]) ∧ Below ((w.alloc (.cells #[.string i.car, .int .i64 i.num, .int .i64 i.day, .string i.frm] lidT))).heap.size (w.alloc (.cells #[.string i.car, .int .i64 i.num, .int .i64 i.day, .string i.frm] lidT)) w') := Lib.hid (by
        refine KN.out.mono ?_
        rintro e w' ⟨⟨_, h2⟩, hb⟩
        obtain ⟨B, cs, R, o, rfl, _⟩ := h2 rfl
        exact ⟨B, rfl, hb⟩)
      clear KN h0 HLE
      go_enter Tryz.func9, Tryz.ntmps9
      go_upto_region 1 with fail
      generalize (w.alloc (.cells #[.string i.car, .int .i64 i.num, .int .i64 i.day, .string i.frm] lidT)) = w5 at *
      go_upto_region 7 with (first
        | (go_at_call 32; (with_reducible refine (KS.out).mono ?_); rintro e w' ⟨rfl, rfl⟩)
        | (go_at_call 12; (with_reducible refine (KN2.out).mono ?_); rintro e w6 ⟨B, rfl, hb6⟩)
        | (go_at_call 33; (with_reducible refine (KR.out _ hb6).mono ?_); rintro e wk ⟨v2, rfl, hO2, hb7⟩; obtain ⟨A2, c2, rfl, _⟩ := hO2.rowL rtF.len))
      have hWk := hb6.trans (hb7.mono hb6.size)
      have hz0 := bel_alloc wk (.cells #[.map none, .map none] stkT)
      have hz1 := bel_alloc (wk.alloc (.cells #[.map none, .map none] stkT)) (.cells #[.pointer none, .pointer (some ⟨wk.heap.size, 0, none⟩)] spT)
      have hz2 := hz0.trans (hz1.mono hz0.size)
      have v1 := bel_cell hz1 ((cells_new wk #[.map none, .map none] stkT 1).trans (show _ = some (Value.map none) from rfl))
      have r0 := (cells_new (wk.alloc (.cells #[.map none, .map none] stkT)) #[.pointer none, .pointer (some ⟨wk.heap.size, 0, none⟩)] spT 0).trans (show _ = some (Value.pointer none) from rfl)
      have r1 := (cells_new (wk.alloc (.cells #[.map none, .map none] stkT)) #[.pointer none, .pointer (some ⟨wk.heap.size, 0, none⟩)] spT 1).trans (show _ = some (Value.pointer (some ⟨wk.heap.size, 0, none⟩)) from rfl)
      rw [World.size_alloc] at r0 r1
      have hW10 := hWk.trans (hz2.mono hWk.size)
      go_upto_region 10 with fail
      try simp only [World.size_alloc]
      generalize (wk.alloc (.cells #[.map none, .map none] stkT)).alloc (.cells #[.pointer none, .pointer (some ⟨wk.heap.size, 0, none⟩)] spT) = w10 at *
      have HP : Hid (∀ (k : Nat), k < 2 → ∃ p, w10.cell? ⟨wk.heap.size + 1, k, none⟩ = some (.pointer p) ∧ VoidS w10 p) := Lib.hid (fun k hk => by
        match k, hk with
        | 0, _ => exact ⟨none, r0, .inl rfl⟩
        | 1, _ => exact ⟨_, r1, .inr ⟨_, rfl, v1⟩⟩)
      have HW10 := Lib.hid hW10
      have HY : Hid (∀ W, Below w10.heap.size w10 W → W.cell? ⟨w.heap.size, 0, none⟩ = some (.string i.car) ∧ W.cell? ⟨w.heap.size, 1, none⟩ = some (.int .i64 i.num) ∧ W.cell? ⟨w.heap.size, 2, none⟩ = some (.int .i64 i.day) ∧ W.cell? ⟨w.heap.size, 3, none⟩ = some (.string i.frm)) := Lib.hid (fun W hW => by
        have hh := hW10.trans (Below.mono hW hW10.size)
        exact ⟨bel_cell hh q0, bel_cell hh q1, bel_cell hh q2, bel_cell hh q3⟩)
      clear hz0 hz1 hz2 v1 r0 r1 hW10 hWk q0 q1 q2 q3
      generalize wk.heap.size + 1 = Lb at *
      go_wp2
      go_loopw [15] (fun vi wr => ∃ k : Nat, k ≤ 2 ∧ vi = .int .i64 k ∧ Below w10.heap.size w10 wr) (fun vi _ => 2 - (intOf vi).toNat)
      case atStart => exact ⟨0, Nat.zero_le _, rfl, Below.refl _ _⟩
      case round =>
        obtain ⟨k, hk, rfl, hW⟩ := hrel
        by_cases hlt : k < 2
        · obtain ⟨p, hp, hv⟩ := HP.out k hlt
          have i1 : (0 : Int) ≤ (k : Int) := by omega
          have i2 : (k : Int) < 2 := by omega
          have HV : Hid (∀ W, Below w10.heap.size w10 W → VoidS W p) := Lib.hid (fun W h => hv.more h)
          have c0 := bel_cell hW hp
          obtain ⟨y0, y1, y2, y3⟩ := HY.out _ hW
          clear hv hp
          go_upto_region 13 with fail
          have hal := bel_alloc wr (.cells #[.string i.car, .int .i64 i.num, .int .i64 i.day, .string i.frm] lidT)
          have c1 := bel_cell hal c0
          go_region
          clear c0 c1 y0 y1 y2 y3
          have hW := (Below.trans hW (Below.mono hal hW.size)).drew
          obtain ⟨y0, y1, y2, y3⟩ := HY.out _ hW
          clear hal
          generalize (wr.alloc (.cells #[.string i.car, .int .i64 i.num, .int .i64 i.day, .string i.frm] lidT)).drew = w11 at *
          go_wp2_with (first
              | (go_at_call 28; (with_reducible refine (equip_void p i _ (HV.out _ hW)).mono ?_); rintro e w9 ⟨rfl, hb9⟩; have hW := Below.trans hW (Below.mono hb9 hW.size); obtain ⟨y0, y1, y2, y3⟩ := HY.out _ hW; clear hb9)
              | (go_at_call 35; (with_reducible refine (lopen_void p i _ _ (HV.out _ hW)).mono ?_); rintro e w9 ⟨rfl, hb9⟩; have hW := Below.trans hW (Below.mono hb9 hW.size); obtain ⟨y0, y1, y2, y3⟩ := HY.out _ hW; clear hb9)
              | (go_at_call 36; (with_reducible refine (lclose_void p i _ (HV.out _ hW)).mono ?_); rintro e w9 ⟨rfl, hb9⟩; have hW := Below.trans hW (Below.mono hb9 hW.size); obtain ⟨y0, y1, y2, y3⟩ := HY.out _ hW; clear hb9)
              | (go_at_call 23; (with_reducible refine (lsell_void p _ _ _ _ (HV.out _ hW)).mono ?_); rintro e w9 ⟨rfl, hb9⟩; have hW := Below.trans hW (Below.mono hb9 hW.size); obtain ⟨y0, y1, y2, y3⟩ := HY.out _ hW; clear hb9)
              | (go_at_call 37; (with_reducible refine (lcanc_void p _ _ _ _ (HV.out _ hW)).mono ?_); rintro e w9 ⟨rfl, hb9⟩; have hW := Below.trans hW (Below.mono hb9 hW.size); obtain ⟨y0, y1, y2, y3⟩ := HY.out _ hW; clear hb9)
              | (go_at_call 29; (with_reducible refine (lresize_void p i _ _ (HV.out _ hW)).mono ?_); rintro e w9 ⟨rfl, hb9⟩; have hW := Below.trans hW (Below.mono hb9 hW.size); obtain ⟨y0, y1, y2, y3⟩ := HY.out _ hW; clear hb9)
              | (go_at_call 21; (with_reducible refine (lleft_void p i _ _ (HV.out _ hW)).mono ?_); rintro e w9 ⟨rfl, hb9⟩; have hW := Below.trans hW (Below.mono hb9 hW.size); obtain ⟨y0, y1, y2, y3⟩ := HY.out _ hW; clear hb9)
              | (go_at_call 38; (with_reducible refine (free_void p i _ _ (HV.out _ hW)).mono ?_); rintro e w9 ⟨rfl, hb9⟩; have hW := Below.trans hW (Below.mono hb9 hW.size); obtain ⟨y0, y1, y2, y3⟩ := HY.out _ hW; clear hb9)
              | (go_at_call 17; (with_reducible refine (lexcess_void p i _ (HV.out _ hW)).mono ?_); rintro e w9 ⟨rfl, hb9⟩; have hW := Below.trans hW (Below.mono hb9 hW.size); obtain ⟨y0, y1, y2, y3⟩ := HY.out _ hW; clear hb9)
              | (go_at_call 26; (with_reducible refine (counts_void p i _ (HV.out _ hW)).mono ?_); rintro e w9 ⟨rfl, hb9⟩; have hW := Below.trans hW (Below.mono hb9 hW.size); obtain ⟨y0, y1, y2, y3⟩ := HY.out _ hW; clear hb9)
              | (go_at_call 39; (with_reducible refine (legs_void p _ (HV.out _ hW)).mono ?_); rintro e w9 ⟨rfl, rfl⟩)
              | (go_at_call 24; (with_reducible refine (copy_void p _ (HV.out _ hW)).mono ?_); rintro e w9 ⟨rfl, hb9⟩; have hW := Below.trans hW (Below.mono hb9 hW.size); obtain ⟨y0, y1, y2, y3⟩ := HY.out _ hW; clear hb9))
          go_roundw
          case rel => exact ⟨k + 1, by omega, by go_num, hW⟩
          case measure => simp [intOf]; omega
        · obtain rfl : k = 2 := by omega
          go_wp2_with (go_at_call 11; refine (KA.out _).mono ?_; rintro e w9 ⟨rfl, hb9⟩)
          go_ret
          have h1 := HW10.out.trans (Below.mono hW HW10.out.size)
          exact ⟨rfl, HB5.out.trans ((h1.trans (hb9.mono h1.size)).mono HB5.out.size)⟩
    · have HL : Hid (0 < (conF l l.length).length) := Lib.hid (by
        cases e : conF l l.length with
        | nil => exact absurd e h0
        | cons x r => simp)
      generalize conF l l.length = L at *
      have KN2 : Hid (Calls Tryz.prog 12 #[.slice A l.length c] (w.alloc (.cells #[.string i.car, .int .i64 i.num, .int .i64 i.day, .string i.frm] lidT)) fun e w' => ∃ v, e = .returned (.tuple #[.pointer none, v]) ∧ FltL w' v L ∧ Below ((w.alloc (.cells #[.string i.car, .int .i64 i.num, .int .i64 i.day, .string i.frm] lidT))).heap.size (w.alloc (.cells #[.string i.car, .int .i64 i.num, .int .i64 i.day, .string i.frm] lidT)) w') := Lib.hid (by
        refine KN.out.mono ?_
        rintro e w' ⟨⟨h1, _⟩, hb⟩
        obtain ⟨v, rfl, h3⟩ := h1 h0
        exact ⟨v, rfl, h3, hb⟩)
      have i1 : (0 : Int) < (L.length : Int) := by have := HL.out; omega
      clear KN h0
      go_enter Tryz.func9, Tryz.ntmps9
      go_upto_region 1 with fail
      generalize (w.alloc (.cells #[.string i.car, .int .i64 i.num, .int .i64 i.day, .string i.frm] lidT)) = w5 at *
      go_upto_region 7 with (first
        | (go_at_call 32; (with_reducible refine (KS.out).mono ?_); rintro e w' ⟨rfl, rfl⟩)
        | (go_at_call 12; (with_reducible refine (KN2.out).mono ?_); rintro e w6 ⟨v, rfl, hF1, hb6⟩)
        | (go_at_call 33; (with_reducible refine (KR.out _ hb6).mono ?_); rintro e w7 ⟨v2, rfl, hO2, hb7⟩; have hF2 := hO2.rowL rtF.len; obtain ⟨A2, c2, rfl, _⟩ := id hF2)
        | (go_at_call 34; (with_reducible refine (sameF_any _ _ L _ (RowL.more hF1 hb7) hF2 HLE.out).mono ?_); rintro e wk ⟨rfl, hb8⟩))
      have hW7 := hb6.trans (hb7.mono hb6.size)
      have hWk := hW7.trans (hb8.mono hW7.size)
      have hz0 := bel_alloc wk (.cells #[.map none, .map none] stkT)
      have hz1 := bel_alloc (wk.alloc (.cells #[.map none, .map none] stkT)) (.cells #[.pointer none, .pointer (some ⟨wk.heap.size, 0, none⟩)] spT)
      have hz2 := hz0.trans (hz1.mono hz0.size)
      have v1 := bel_cell hz1 ((cells_new wk #[.map none, .map none] stkT 1).trans (show _ = some (Value.map none) from rfl))
      have r0 := (cells_new (wk.alloc (.cells #[.map none, .map none] stkT)) #[.pointer none, .pointer (some ⟨wk.heap.size, 0, none⟩)] spT 0).trans (show _ = some (Value.pointer none) from rfl)
      have r1 := (cells_new (wk.alloc (.cells #[.map none, .map none] stkT)) #[.pointer none, .pointer (some ⟨wk.heap.size, 0, none⟩)] spT 1).trans (show _ = some (Value.pointer (some ⟨wk.heap.size, 0, none⟩)) from rfl)
      rw [World.size_alloc] at r0 r1
      have hW10 := hWk.trans (hz2.mono hWk.size)
      go_upto_region 10 with fail
      try simp only [World.size_alloc]
      generalize (wk.alloc (.cells #[.map none, .map none] stkT)).alloc (.cells #[.pointer none, .pointer (some ⟨wk.heap.size, 0, none⟩)] spT) = w10 at *
      have HP : Hid (∀ (k : Nat), k < 2 → ∃ p, w10.cell? ⟨wk.heap.size + 1, k, none⟩ = some (.pointer p) ∧ VoidS w10 p) := Lib.hid (fun k hk => by
        match k, hk with
        | 0, _ => exact ⟨none, r0, .inl rfl⟩
        | 1, _ => exact ⟨_, r1, .inr ⟨_, rfl, v1⟩⟩)
      have HW10 := Lib.hid hW10
      have HY : Hid (∀ W, Below w10.heap.size w10 W → W.cell? ⟨w.heap.size, 0, none⟩ = some (.string i.car) ∧ W.cell? ⟨w.heap.size, 1, none⟩ = some (.int .i64 i.num) ∧ W.cell? ⟨w.heap.size, 2, none⟩ = some (.int .i64 i.day) ∧ W.cell? ⟨w.heap.size, 3, none⟩ = some (.string i.frm)) := Lib.hid (fun W hW => by
        have hh := hW10.trans (Below.mono hW hW10.size)
        exact ⟨bel_cell hh q0, bel_cell hh q1, bel_cell hh q2, bel_cell hh q3⟩)
      clear hz0 hz1 hz2 v1 r0 r1 hW10 hWk q0 q1 q2 q3
      generalize wk.heap.size + 1 = Lb at *
      go_wp2
      go_loopw [15] (fun vi wr => ∃ k : Nat, k ≤ 2 ∧ vi = .int .i64 k ∧ Below w10.heap.size w10 wr) (fun vi _ => 2 - (intOf vi).toNat)
      case atStart => exact ⟨0, Nat.zero_le _, rfl, Below.refl _ _⟩
      case round =>
        obtain ⟨k, hk, rfl, hW⟩ := hrel
        by_cases hlt : k < 2
        · obtain ⟨p, hp, hv⟩ := HP.out k hlt
          have i1 : (0 : Int) ≤ (k : Int) := by omega
          have i2 : (k : Int) < 2 := by omega
          have HV : Hid (∀ W, Below w10.heap.size w10 W → VoidS W p) := Lib.hid (fun W h => hv.more h)
          have c0 := bel_cell hW hp
          obtain ⟨y0, y1, y2, y3⟩ := HY.out _ hW
          clear hv hp
          go_upto_region 13 with fail
          have hal := bel_alloc wr (.cells #[.string i.car, .int .i64 i.num, .int .i64 i.day, .string i.frm] lidT)
          have c1 := bel_cell hal c0
          go_region
          clear c0 c1 y0 y1 y2 y3
          have hW := (Below.trans hW (Below.mono hal hW.size)).drew
          obtain ⟨y0, y1, y2, y3⟩ := HY.out _ hW
          clear hal
          generalize (wr.alloc (.cells #[.string i.car, .int .i64 i.num, .int .i64 i.day, .string i.frm] lidT)).drew = w11 at *
          go_wp2_with (first
              | (go_at_call 28; (with_reducible refine (equip_void p i _ (HV.out _ hW)).mono ?_); rintro e w9 ⟨rfl, hb9⟩; have hW := Below.trans hW (Below.mono hb9 hW.size); obtain ⟨y0, y1, y2, y3⟩ := HY.out _ hW; clear hb9)
              | (go_at_call 35; (with_reducible refine (lopen_void p i _ _ (HV.out _ hW)).mono ?_); rintro e w9 ⟨rfl, hb9⟩; have hW := Below.trans hW (Below.mono hb9 hW.size); obtain ⟨y0, y1, y2, y3⟩ := HY.out _ hW; clear hb9)
              | (go_at_call 36; (with_reducible refine (lclose_void p i _ (HV.out _ hW)).mono ?_); rintro e w9 ⟨rfl, hb9⟩; have hW := Below.trans hW (Below.mono hb9 hW.size); obtain ⟨y0, y1, y2, y3⟩ := HY.out _ hW; clear hb9)
              | (go_at_call 23; (with_reducible refine (lsell_void p _ _ _ _ (HV.out _ hW)).mono ?_); rintro e w9 ⟨rfl, hb9⟩; have hW := Below.trans hW (Below.mono hb9 hW.size); obtain ⟨y0, y1, y2, y3⟩ := HY.out _ hW; clear hb9)
              | (go_at_call 37; (with_reducible refine (lcanc_void p _ _ _ _ (HV.out _ hW)).mono ?_); rintro e w9 ⟨rfl, hb9⟩; have hW := Below.trans hW (Below.mono hb9 hW.size); obtain ⟨y0, y1, y2, y3⟩ := HY.out _ hW; clear hb9)
              | (go_at_call 29; (with_reducible refine (lresize_void p i _ _ (HV.out _ hW)).mono ?_); rintro e w9 ⟨rfl, hb9⟩; have hW := Below.trans hW (Below.mono hb9 hW.size); obtain ⟨y0, y1, y2, y3⟩ := HY.out _ hW; clear hb9)
              | (go_at_call 21; (with_reducible refine (lleft_void p i _ _ (HV.out _ hW)).mono ?_); rintro e w9 ⟨rfl, hb9⟩; have hW := Below.trans hW (Below.mono hb9 hW.size); obtain ⟨y0, y1, y2, y3⟩ := HY.out _ hW; clear hb9)
              | (go_at_call 38; (with_reducible refine (free_void p i _ _ (HV.out _ hW)).mono ?_); rintro e w9 ⟨rfl, hb9⟩; have hW := Below.trans hW (Below.mono hb9 hW.size); obtain ⟨y0, y1, y2, y3⟩ := HY.out _ hW; clear hb9)
              | (go_at_call 17; (with_reducible refine (lexcess_void p i _ (HV.out _ hW)).mono ?_); rintro e w9 ⟨rfl, hb9⟩; have hW := Below.trans hW (Below.mono hb9 hW.size); obtain ⟨y0, y1, y2, y3⟩ := HY.out _ hW; clear hb9)
              | (go_at_call 26; (with_reducible refine (counts_void p i _ (HV.out _ hW)).mono ?_); rintro e w9 ⟨rfl, hb9⟩; have hW := Below.trans hW (Below.mono hb9 hW.size); obtain ⟨y0, y1, y2, y3⟩ := HY.out _ hW; clear hb9)
              | (go_at_call 39; (with_reducible refine (legs_void p _ (HV.out _ hW)).mono ?_); rintro e w9 ⟨rfl, rfl⟩)
              | (go_at_call 24; (with_reducible refine (copy_void p _ (HV.out _ hW)).mono ?_); rintro e w9 ⟨rfl, hb9⟩; have hW := Below.trans hW (Below.mono hb9 hW.size); obtain ⟨y0, y1, y2, y3⟩ := HY.out _ hW; clear hb9))
          go_roundw
          case rel => exact ⟨k + 1, by omega, by go_num, hW⟩
          case measure => simp [intOf]; omega
        · obtain rfl : k = 2 := by omega
          go_wp2_with (go_at_call 11; refine (KA.out _).mono ?_; rintro e w9 ⟨rfl, hb9⟩)
          go_ret
          have h1 := HW10.out.trans (Below.mono hW HW10.out.size)
          exact ⟨rfl, HB5.out.trans ((h1.trans (hb9.mono h1.size)).mono HB5.out.size)⟩
  · rw [small_no hs] at KS
    clear hs hv hok hv5 hb5 q0 q1 q2 q3
    go_enter Tryz.func9, Tryz.ntmps9
    go_upto_region 1 with fail
    generalize (w.alloc (.cells #[.string i.car, .int .i64 i.num, .int .i64 i.day, .string i.frm] lidT)) = w5 at *
    go_wp2_with (first
      | (go_at_call 32; (with_reducible refine (KS.out).mono ?_); rintro e w' ⟨rfl, rfl⟩)
      | (go_at_call 11; (with_reducible refine (KA.out _).mono ?_); rintro e wd ⟨rfl, hbd⟩))
    go_ret
    exact ⟨rfl, HB5.out.trans (hbd.mono HB5.out.size)⟩
end Go.Proofs.YtkghpapbifijcaaGreatDoor
