/- Walk of the reference's Parse, where one of the first parts is no date. -/
import Derived.Test.YtnfdmdhpbaifiaaDoorPerUA
import Derived.Test.YtnfdmdhpbaifiaaDoorCalI
namespace Go.Proofs.YtnfdmdhpbaifiaaDoor
open Go.RowKit
set_option linter.unusedSimpArgs false
set_option linter.unusedVariables false

theorem rcut_no (s : ByteArray) (hs : s.size ≤ 1000) (h : (cutL s.data.toList).length ≠ 3) (w : World) : Calls Tryd.prog 16 #[.string s, .int .u8 47] w fun e w' => ∃ A n c, e = .returned (.slice A n c) ∧ ((n : Int) != 3) = true ∧ Below w.heap.size w w' := by
  refine (cut_any s w hs).mono ?_
  rintro e w' ⟨v, ss, rfl, hv, h1, hb⟩
  obtain ⟨A, c, rfl⟩ := hv.form
  exact ⟨A, _, c, rfl, by rw [h1, List.length_map] at h; rw [bne_iff_ne]; omega, hb⟩
theorem rcut_yes (s : ByteArray) (hs : s.size ≤ 1000) {x y z : List UInt8} (h : cutL s.data.toList = [x, y, z]) (w : World) : Calls Tryd.prog 16 #[.string s, .int .u8 47] w fun e w' => ∃ b o c, e = .returned (.slice (some ⟨b, o, none⟩) 3 c) ∧ Parts3 w' b o (mk x) (mk y) (mk z) ∧ Below w.heap.size w w' := by
  refine (cut_any s w hs).mono ?_
  rintro e w' ⟨v, ss, rfl, hv, h3, hb⟩
  rw [h] at h3
  rw [lists_three h3] at hv
  obtain ⟨b, o, c, rfl, hp⟩ := hv.three
  exact ⟨b, o, c, rfl, hp, hb⟩
theorem brparse_any (x : List UInt8) (w : World) (hs : x.length ≤ 1000) : Calls Tryd.prog 17 #[.string (mk x)] w fun e w' => e = .returned (.tuple #[.int .i64 (parseP x).1, .int .i64 (parseP x).2]) ∧ Below w.heap.size w w' := rparse_any (mk x) w hs

set_option maxRecDepth 100000 in
set_option maxHeartbeats 4000000 in
theorem rpparse_head (s : ByteArray) (w : World) (hs : s.size ≤ 1000) (hno : ∀ x y z, cutL s.data.toList = [x, y, z] → (parseP x).2 = 0 → (parseP y).2 = 0 → False) : Calls Tryd.prog 6 #[.string s] w fun e W' => e = .returned (.tuple #[encQ (perR s.data.toList).1, .int .i64 (perR s.data.toList).2]) ∧ Below w.heap.size w W' := by
  have hbR : BoxAt (w.alloc (.cells #[.int .i64 0, .int .i64 0, .int .i64 0] perT)) w.heap.size (0, 0, 0) := heap_alloc_new w _
  have hb0 : Below w.heap.size w (w.alloc (.cells #[.int .i64 0, .int .i64 0, .int .i64 0] perT)) := bel_alloc w _
  by_cases h : (cutL s.data.toList).length = 3
  case neg =>
    have HR := Lib.hid (perR_len h)
    have CS := Lib.hid (rcut_no s hs h)
    clear h
    go_enter Tryd.func6, Tryd.ntmps6
    go_wp2_with (go_at_call 16; refine (CS.out _).mono ?_; rintro e w1 ⟨A, n, c, rfl, t1, hb⟩; have hR2 := hbR.more hb; have c0 := hR2.cell.1; have c1 := hR2.cell.2.1; have c2 := hR2.cell.2.2; have f0 := hR2.frozen 0; have f1 := hR2.frozen 1; have f2 := hR2.frozen 2)
    obtain ⟨h1, h2⟩ := hR2.result (0, 0, 0) (by omega) (hb0.trans (hb.mono (by simp)))
    obtain ⟨d0, d1, d2⟩ := h1.cell
    refine bodyPost_ret (v := .tuple #[encQ (0, 0, 0), .int .i64 3]) ?_ rfl ⟨by rw [HR.out], h2⟩
    simp [results, Tryd.results6, go_sem, d0, d1, d2]
  obtain ⟨x, y, z, hxyz⟩ : ∃ x y z, cutL s.data.toList = [x, y, z] := by
    match hc : cutL s.data.toList, h with
    | [x, y, z], _ => exact ⟨x, y, z, rfl⟩
  have CS := Lib.hid (rcut_yes s hs hxyz)
  have hl : s.data.toList.length = s.size := by simp
  have lx : x.length ≤ 1000 := by have := cut_part_le s.data.toList x (by rw [hxyz]; simp); omega
  have ly : y.length ≤ 1000 := by have := cut_part_le s.data.toList y (by rw [hxyz]; simp); omega
  have lz : z.length ≤ 1000 := by have := cut_part_le s.data.toList z (by rw [hxyz]; simp); omega
  have CX := Lib.hid (fun W => brparse_any x W lx)
  have CY := Lib.hid (fun W => brparse_any y W ly)
  have HP := perR_three hxyz
  have hno := Lib.hid (hno x y z hxyz)
  clear hxyz h hl lx ly lz
  by_cases ea : (parseP x).2 = 0
  case neg =>
    have HR := Lib.hid (HP.trans (per3_a ea))
    have t2 := ne_true ea
    clear HP CY ea
    generalize (parseP x).1 = f at *
    generalize (parseP x).2 = e1 at *
    generalize mk x = X at *
    generalize mk y = Y at *
    generalize mk z = Z at *
    go_enter Tryd.func6, Tryd.ntmps6
    go_wp2_with (first
      | (go_at_call 16; refine (CS.out _).mono ?_; rintro e w1 ⟨b, o, c, rfl, hP, hb⟩; have hR1 := hbR.more hb; have p0 := hP.c0)
      | (go_at_call 17; refine (CX.out _).mono ?_; rintro e w2 ⟨rfl, hb2⟩; have hR2 := hR1.more hb2; have c0 := hR2.cell.1; have c1 := hR2.cell.2.1; have c2 := hR2.cell.2.2; have f0 := hR2.frozen 0; have f1 := hR2.frozen 1; have f2 := hR2.frozen 2))
    have hs1 := hb0.trans (hb.mono (by simp))
    obtain ⟨h1, h2⟩ := hR2.result (0, 0, 0) (by omega) (hs1.trans (hb2.mono hs1.size))
    obtain ⟨d0, d1, d2⟩ := h1.cell
    refine bodyPost_ret (v := .tuple #[encQ (0, 0, 0), .int .i64 e1]) ?_ rfl ⟨by rw [HR.out], h2⟩
    simp [results, Tryd.results6, go_sem, d0, d1, d2]
  by_cases eb : (parseP y).2 = 0
  case neg =>
    have HR := Lib.hid (HP.trans (per3_b ea eb))
    have t2 := ne_true eb
    rw [ea] at CX
    clear HP ea eb
    generalize (parseP x).1 = f at *
    generalize (parseP y).1 = g at *
    generalize (parseP y).2 = e2 at *
    generalize mk x = X at *
    generalize mk y = Y at *
    generalize mk z = Z at *
    go_enter Tryd.func6, Tryd.ntmps6
    go_wp2_with (first
      | (go_at_call 16; refine (CS.out _).mono ?_; rintro e w1 ⟨b, o, c, rfl, hP, hb⟩; have hR1 := hbR.more hb; have p0 := hP.c0)
      | (go_at_call 17; first | (with_reducible refine (CX.out _).mono ?_; rintro e w2 ⟨rfl, hb2⟩; have hR2 := hR1.more hb2; have p1 := (hP.more hb2).c1) | (with_reducible refine (CY.out _).mono ?_; rintro e w3 ⟨rfl, hb3⟩; have hR3 := hR2.more hb3; have c0 := hR3.cell.1; have c1 := hR3.cell.2.1; have c2 := hR3.cell.2.2; have f0 := hR3.frozen 0; have f1 := hR3.frozen 1; have f2 := hR3.frozen 2)))
    have hs1 := hb0.trans (hb.mono (by simp))
    have hs2 := hs1.trans (hb2.mono hs1.size)
    obtain ⟨h1, h2⟩ := hR3.result (0, 0, 0) (by omega) (hs2.trans (hb3.mono hs2.size))
    obtain ⟨d0, d1, d2⟩ := h1.cell
    refine bodyPost_ret (v := .tuple #[encQ (0, 0, 0), .int .i64 e2]) ?_ rfl ⟨by rw [HR.out], h2⟩
    simp [results, Tryd.results6, go_sem, d0, d1, d2]
  exact (hno.out ea eb).elim

end Go.Proofs.YtnfdmdhpbaifiaaDoor
