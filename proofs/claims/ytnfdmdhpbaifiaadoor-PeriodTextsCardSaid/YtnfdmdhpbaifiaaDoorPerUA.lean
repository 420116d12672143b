/- Walk of Parse. -/
import Derived.Test.YtnfdmdhpbaifiaaDoorPerU
namespace Go.Proofs.YtnfdmdhpbaifiaaDoor
open Go.RowKit
set_option linter.unusedSimpArgs false
set_option linter.unusedVariables false

theorem split_no (s : ByteArray) (hs : s.size ≤ 1000) (h : (cutL s.data.toList).length ≠ 3) (w : World) (hE : Env0 w) : Calls Tryd.prog 12 #[.string s, .string ⟨#[47]⟩, .int .i64 4] w fun e w' => ∃ A n c, e = .returned (.slice A n c) ∧ ((n : Int) != 3) = true ∧ Below w.heap.size w w' := by
  refine (splitn_any s w hs hE).mono ?_
  rintro e w' ⟨v, ss, rfl, hv, h1, _, hb⟩
  obtain ⟨A, c, rfl⟩ := hv.form
  exact ⟨A, _, c, rfl, by have := h1 h; rw [bne_iff_ne]; omega, hb⟩
theorem split_yes (s : ByteArray) (hs : s.size ≤ 1000) {x y z : List UInt8} (h : cutL s.data.toList = [x, y, z]) (w : World) (hE : Env0 w) : Calls Tryd.prog 12 #[.string s, .string ⟨#[47]⟩, .int .i64 4] w fun e w' => ∃ b o c, e = .returned (.slice (some ⟨b, o, none⟩) 3 c) ∧ Parts3 w' b o (mk x) (mk y) (mk z) ∧ Below w.heap.size w w' := by
  refine (splitn_any s w hs hE).mono ?_
  rintro e w' ⟨v, ss, rfl, hv, _, h2, hb⟩
  have h3 := h2 (by rw [h]; rfl)
  rw [h] at h3
  rw [lists_three h3] at hv
  obtain ⟨b, o, c, rfl, hp⟩ := hv.three
  exact ⟨b, o, c, rfl, hp, hb⟩
theorem bparse_any (x : List UInt8) (w : World) (hs : x.length ≤ 1000) : Calls Tryd.prog 13 #[.string (mk x)] w fun e w' => e = .returned (.tuple #[.int .i64 (parseP x).1, .int .i64 (parseP x).2]) ∧ Below w.heap.size w w' := parse_any (mk x) w hs
theorem bdigits_any (x : List UInt8) (w : World) (hs : x.length ≤ 1000) : Calls Tryd.prog 14 #[.string (mk x)] w fun e w' => e = .returned (.tuple #[.int .i64 (dgF 0 x).1, .int .i64 (dgF 0 x).2]) ∧ w = w' := readDigits_any (mk x) w hs
theorem newBox (w : World) (p : Per) : BoxAt (w.alloc (.cells #[.int .i64 p.1, .int .i64 p.2.1, .int .i64 p.2.2] perT)) w.heap.size p := heap_alloc_new w _
theorem ne_true {x : Int} (h : x ≠ 0) : (x != 0) = true := by rw [bne_iff_ne]; exact h

set_option maxRecDepth 100000 in
set_option maxHeartbeats 4000000 in
theorem pparse_any (s : ByteArray) (w : World) (hs : s.size ≤ 1000) (hE : Env0 w) : Calls Tryd.prog 5 #[.string s] w fun e W' => e = .returned (.tuple #[encQ (perR s.data.toList).1, .int .i64 (perR s.data.toList).2]) ∧ Below w.heap.size w W' := by
  have hbR : BoxAt (w.alloc (.cells #[.int .i64 0, .int .i64 0, .int .i64 0] perT)) w.heap.size (0, 0, 0) := heap_alloc_new w _
  have hb0 : Below w.heap.size w (w.alloc (.cells #[.int .i64 0, .int .i64 0, .int .i64 0] perT)) := bel_alloc w _
  have hE1 := hE.more hb0
  by_cases h : (cutL s.data.toList).length = 3
  case neg =>
    have HR := Lib.hid (perR_len h)
    have CS := Lib.hid (split_no s hs h)
    clear h
    go_enter Tryd.func5, Tryd.ntmps5
    go_wp2_with (go_at_call 12; refine (CS.out _ hE1).mono ?_; rintro e w1 ⟨A, n, c, rfl, t1, hb⟩; have hR2 := hbR.more hb; have c0 := hR2.cell.1; have c1 := hR2.cell.2.1; have c2 := hR2.cell.2.2; have f0 := hR2.frozen 0; have f1 := hR2.frozen 1; have f2 := hR2.frozen 2)
    obtain ⟨h1, h2⟩ := hR2.result (0, 0, 0) (by omega) (hb0.trans (hb.mono (by simp)))
    obtain ⟨d0, d1, d2⟩ := h1.cell
    refine bodyPost_ret (v := .tuple #[encQ (0, 0, 0), .int .i64 3]) ?_ rfl ⟨by rw [HR.out], h2⟩
    simp [results, Tryd.results5, go_sem, d0, d1, d2]
  obtain ⟨x, y, z, hxyz⟩ : ∃ x y z, cutL s.data.toList = [x, y, z] := by
    match hc : cutL s.data.toList, h with
    | [x, y, z], _ => exact ⟨x, y, z, rfl⟩
  have CS := Lib.hid (split_yes s hs hxyz)
  have hl : s.data.toList.length = s.size := by simp
  have lx : x.length ≤ 1000 := by have := cut_part_le s.data.toList x (by rw [hxyz]; simp); omega
  have ly : y.length ≤ 1000 := by have := cut_part_le s.data.toList y (by rw [hxyz]; simp); omega
  have lz : z.length ≤ 1000 := by have := cut_part_le s.data.toList z (by rw [hxyz]; simp); omega
  have CX := Lib.hid (fun W => bparse_any x W lx)
  have CY := Lib.hid (fun W => bparse_any y W ly)
  have CZ := Lib.hid (fun W => bdigits_any z W lz)
  have HP := perR_three hxyz
  clear hxyz h hl lx ly lz
  by_cases ea : (parseP x).2 = 0
  case neg =>
    have HR := Lib.hid (HP.trans (per3_a ea))
    have t2 := ne_true ea
    clear HP CY CZ ea
    generalize (parseP x).1 = f at *
    generalize (parseP x).2 = e1 at *
    generalize mk x = X at *
    generalize mk y = Y at *
    generalize mk z = Z at *
    go_enter Tryd.func5, Tryd.ntmps5
    go_wp2_with (first
      | (go_at_call 12; refine (CS.out _ hE1).mono ?_; rintro e w1 ⟨b, o, c, rfl, hP, hb⟩; have hR1 := hbR.more hb; have p0 := hP.c0)
      | (go_at_call 13; refine (CX.out _).mono ?_; rintro e w2 ⟨rfl, hb2⟩; have hR2 := hR1.more hb2; have c0 := hR2.cell.1; have c1 := hR2.cell.2.1; have c2 := hR2.cell.2.2; have f0 := hR2.frozen 0; have f1 := hR2.frozen 1; have f2 := hR2.frozen 2))
    have hs1 := hb0.trans (hb.mono (by simp))
    obtain ⟨h1, h2⟩ := hR2.result (0, 0, 0) (by omega) (hs1.trans (hb2.mono hs1.size))
    obtain ⟨d0, d1, d2⟩ := h1.cell
    refine bodyPost_ret (v := .tuple #[encQ (0, 0, 0), .int .i64 e1]) ?_ rfl ⟨by rw [HR.out], h2⟩
    simp [results, Tryd.results5, go_sem, d0, d1, d2]
  by_cases eb : (parseP y).2 = 0
  case neg =>
    have HR := Lib.hid (HP.trans (per3_b ea eb))
    have t2 := ne_true eb
    rw [ea] at CX
    clear HP CZ ea eb
    generalize (parseP x).1 = f at *
    generalize (parseP y).1 = g at *
    generalize (parseP y).2 = e2 at *
    generalize mk x = X at *
    generalize mk y = Y at *
    generalize mk z = Z at *
    go_enter Tryd.func5, Tryd.ntmps5
    go_wp2_with (first
      | (go_at_call 12; refine (CS.out _ hE1).mono ?_; rintro e w1 ⟨b, o, c, rfl, hP, hb⟩; have hR1 := hbR.more hb; have p0 := hP.c0)
      | (go_at_call 13; first | (with_reducible refine (CX.out _).mono ?_; rintro e w2 ⟨rfl, hb2⟩; have hR2 := hR1.more hb2; have p1 := (hP.more hb2).c1) | (with_reducible refine (CY.out _).mono ?_; rintro e w3 ⟨rfl, hb3⟩; have hR3 := hR2.more hb3; have c0 := hR3.cell.1; have c1 := hR3.cell.2.1; have c2 := hR3.cell.2.2; have f0 := hR3.frozen 0; have f1 := hR3.frozen 1; have f2 := hR3.frozen 2)))
    have hs1 := hb0.trans (hb.mono (by simp))
    have hs2 := hs1.trans (hb2.mono hs1.size)
    obtain ⟨h1, h2⟩ := hR3.result (0, 0, 0) (by omega) (hs2.trans (hb3.mono hs2.size))
    obtain ⟨d0, d1, d2⟩ := h1.cell
    refine bodyPost_ret (v := .tuple #[encQ (0, 0, 0), .int .i64 e2]) ?_ rfl ⟨by rw [HR.out], h2⟩
    simp [results, Tryd.results5, go_sem, d0, d1, d2]
  by_cases ec : (dgF 0 z).2 = 0
  case neg =>
    have HR := Lib.hid (HP.trans (per3_c ea eb ec))
    have t2 := ne_true ec
    rw [ea] at CX
    rw [eb] at CY
    clear HP ea eb ec
    generalize (parseP x).1 = f at *
    generalize (parseP y).1 = g at *
    generalize (dgF 0 z).1 = d at *
    generalize (dgF 0 z).2 = e3 at *
    generalize mk x = X at *
    generalize mk y = Y at *
    generalize mk z = Z at *
    go_enter Tryd.func5, Tryd.ntmps5
    go_wp2_with (first
      | (go_at_call 12; refine (CS.out _ hE1).mono ?_; rintro e w1 ⟨b, o, c, rfl, hP, hb⟩; have hR1 := hbR.more hb; have p0 := hP.c0)
      | (go_at_call 13; first | (with_reducible refine (CX.out _).mono ?_; rintro e w2 ⟨rfl, hb2⟩; have hR2 := hR1.more hb2; have p1 := (hP.more hb2).c1) | (with_reducible refine (CY.out _).mono ?_; rintro e w3 ⟨rfl, hb3⟩; have hR3 := hR2.more hb3; have p2 := ((hP.more hb2).more hb3).c2; have c0 := hR3.cell.1; have c1 := hR3.cell.2.1; have c2 := hR3.cell.2.2; have f0 := hR3.frozen 0; have f1 := hR3.frozen 1; have f2 := hR3.frozen 2))
      | (go_at_call 14; refine (CZ.out _).mono ?_; rintro e w' ⟨rfl, rfl⟩))
    have hs1 := hb0.trans (hb.mono (by simp))
    have hs2 := hs1.trans (hb2.mono hs1.size)
    obtain ⟨h1, h2⟩ := hR3.result (0, 0, 0) (by omega) (hs2.trans (hb3.mono hs2.size))
    obtain ⟨d0, d1, d2⟩ := h1.cell
    refine bodyPost_ret (v := .tuple #[encQ (0, 0, 0), .int .i64 e3]) ?_ rfl ⟨by rw [HR.out], h2⟩
    simp [results, Tryd.results5, go_sem, d0, d1, d2]
  have CK := Lib.hid (fun W => check_any (parseP x).1 (parseP y).1 (dgF 0 z).1 W)
  by_cases ed : errQ ((parseP x).1, (parseP y).1, (dgF 0 z).1) = 0
  case neg =>
    have HR := Lib.hid (HP.trans (per3_d ea eb ec ed))
    have t2 := ne_true ed
    rw [ea] at CX
    rw [eb] at CY
    rw [ec] at CZ
    clear HP ea eb ec ed
    generalize errQ ((parseP x).1, (parseP y).1, (dgF 0 z).1) = e4 at *
    generalize (parseP x).1 = f at *
    generalize (parseP y).1 = g at *
    generalize (dgF 0 z).1 = d at *
    generalize mk x = X at *
    generalize mk y = Y at *
    generalize mk z = Z at *
    go_enter Tryd.func5, Tryd.ntmps5
    go_wp2_with (first
      | (go_at_call 12; refine (CS.out _ hE1).mono ?_; rintro e w1 ⟨b, o, c, rfl, hP, hb⟩; have hR1 := hbR.more hb; have p0 := hP.c0)
      | (go_at_call 13; first | (with_reducible refine (CX.out _).mono ?_; rintro e w2 ⟨rfl, hb2⟩; have hR2 := hR1.more hb2; have p1 := (hP.more hb2).c1) | (with_reducible refine (CY.out _).mono ?_; rintro e w3 ⟨rfl, hb3⟩; have hR3 := hR2.more hb3; have p2 := ((hP.more hb2).more hb3).c2))
      | (go_at_call 14; refine (CZ.out _).mono ?_; rintro e w' ⟨rfl, rfl⟩; have hR4 := hR3.more (bel_alloc w3 (.cells #[.int .i64 f, .int .i64 g, .int .i64 d] perT)); have hQ4 := newBox w3 (f, g, d); have q0 := hQ4.cell.1; have q1 := hQ4.cell.2.1; have q2 := hQ4.cell.2.2)
      | (go_at_call 15; refine (CK.out _).mono ?_; rintro e w5 ⟨rfl, hb5⟩; have hR5 := hR4.more hb5; have hQ5 := hQ4.more hb5; have v0 := hQ5.cell.1; have v1 := hQ5.cell.2.1; have v2 := hQ5.cell.2.2; have c0 := hR5.cell.1; have c1 := hR5.cell.2.1; have c2 := hR5.cell.2.2; have f0 := hR5.frozen 0; have f1 := hR5.frozen 1; have f2 := hR5.frozen 2))
    have hs1 := hb0.trans (hb.mono (by simp))
    have hs2 := hs1.trans (hb2.mono hs1.size)
    have hs3 := hs2.trans (hb3.mono hs2.size)
    have hs4 := hs3.alloc hs3.size (.cells #[.int .i64 f, .int .i64 g, .int .i64 d] perT)
    obtain ⟨h1, h2⟩ := hR5.result (0, 0, 0) (by omega) (hs4.trans (hb5.mono hs4.size))
    obtain ⟨d0, d1, d2⟩ := h1.cell
    refine bodyPost_ret (v := .tuple #[encQ (0, 0, 0), .int .i64 e4]) ?_ rfl ⟨by rw [HR.out], h2⟩
    simp [results, Tryd.results5, go_sem, d0, d1, d2]
  · have HR := Lib.hid (HP.trans (per3_ok ea eb ec ed))
    rw [ed] at CK
    rw [ea] at CX
    rw [eb] at CY
    rw [ec] at CZ
    clear HP ea eb ec ed
    generalize (parseP x).1 = f at *
    generalize (parseP y).1 = g at *
    generalize (dgF 0 z).1 = d at *
    generalize mk x = X at *
    generalize mk y = Y at *
    generalize mk z = Z at *
    go_enter Tryd.func5, Tryd.ntmps5
    go_wp2_with (first
      | (go_at_call 12; refine (CS.out _ hE1).mono ?_; rintro e w1 ⟨b, o, c, rfl, hP, hb⟩; have hR1 := hbR.more hb; have p0 := hP.c0)
      | (go_at_call 13; first | (with_reducible refine (CX.out _).mono ?_; rintro e w2 ⟨rfl, hb2⟩; have hR2 := hR1.more hb2; have p1 := (hP.more hb2).c1) | (with_reducible refine (CY.out _).mono ?_; rintro e w3 ⟨rfl, hb3⟩; have hR3 := hR2.more hb3; have p2 := ((hP.more hb2).more hb3).c2))
      | (go_at_call 14; refine (CZ.out _).mono ?_; rintro e w' ⟨rfl, rfl⟩; have hR4 := hR3.more (bel_alloc w3 (.cells #[.int .i64 f, .int .i64 g, .int .i64 d] perT)); have hQ4 := newBox w3 (f, g, d); have q0 := hQ4.cell.1; have q1 := hQ4.cell.2.1; have q2 := hQ4.cell.2.2)
      | (go_at_call 15; refine (CK.out _).mono ?_; rintro e w5 ⟨rfl, hb5⟩; have hR5 := hR4.more hb5; have hQ5 := hQ4.more hb5; have v0 := hQ5.cell.1; have v1 := hQ5.cell.2.1; have v2 := hQ5.cell.2.2; have c0 := hR5.cell.1; have c1 := hR5.cell.2.1; have c2 := hR5.cell.2.2; have f0 := hR5.frozen 0; have f1 := hR5.frozen 1; have f2 := hR5.frozen 2))
    have hs1 := hb0.trans (hb.mono (by simp))
    have hs2 := hs1.trans (hb2.mono hs1.size)
    have hs3 := hs2.trans (hb3.mono hs2.size)
    have hs4 := hs3.alloc hs3.size (.cells #[.int .i64 f, .int .i64 g, .int .i64 d] perT)
    obtain ⟨h1, h2⟩ := hR5.result (f, g, d) (by omega) (hs4.trans (hb5.mono hs4.size))
    obtain ⟨d0, d1, d2⟩ := h1.cell
    refine bodyPost_ret (v := .tuple #[encQ (f, g, d), .int .i64 0]) ?_ rfl ⟨by rw [HR.out], h2⟩
    simp [results, Tryd.results5, go_sem, d0, d1, d2]

end Go.Proofs.YtnfdmdhpbaifiaaDoor
