/- Words and walks that the laws below ask: PerUB, PerUC, TxtE, FliJ. -/
import Derived.Test.YtmmpalnalogfnaaGreatDoorPk5
import Derived.Test.YtmmpalnalogfnaaGreatDoorPk8
import Derived.Test.YtmmpalnalogfnaaGreatDoorPk9
/- Walk of the reference's Parse, where one of the first parts is no date. -/
namespace Go.Proofs.YtmmpalnalogfnaaGreatDoor.Per
open Go.RowKit
set_option linter.unusedSimpArgs false
set_option linter.unusedVariables false

theorem rcut_no (s : ByteArray) (hs : s.size ≤ 1000) (h : (cutL s.data.toList).length ≠ 3) (w : World) : Calls Tryz.prog 121 #[.string s, .int .u8 47] w fun e w' => ∃ A n c, e = .returned (.slice A n c) ∧ ((n : Int) != 3) = true ∧ Below w.heap.size w w' := by
  refine (cut_any s w hs).mono ?_
  rintro e w' ⟨v, ss, rfl, hv, h1, hb⟩
  obtain ⟨A, c, rfl⟩ := (StrL.form hv)
  exact ⟨A, _, c, rfl, by rw [h1, List.length_map] at h; rw [bne_iff_ne]; omega, hb⟩
theorem rcut_yes (s : ByteArray) (hs : s.size ≤ 1000) {x y z : List UInt8} (h : cutL s.data.toList = [x, y, z]) (w : World) : Calls Tryz.prog 121 #[.string s, .int .u8 47] w fun e w' => ∃ b o c, e = .returned (.slice (some ⟨b, o, none⟩) 3 c) ∧ Parts3 w' b o (mk x) (mk y) (mk z) ∧ Below w.heap.size w w' := by
  refine (cut_any s w hs).mono ?_
  rintro e w' ⟨v, ss, rfl, hv, h3, hb⟩
  rw [h] at h3
  rw [lists_three h3] at hv
  obtain ⟨b, o, c, rfl, hp⟩ := (StrL.three hv)
  exact ⟨b, o, c, rfl, hp, hb⟩
theorem brparse_any (x : List UInt8) (w : World) (hs : x.length ≤ 1000) : Calls Tryz.prog 122 #[.string (mk x)] w fun e w' => e = .returned (.tuple #[.int .i64 (parseP x).1, .int .i64 (parseP x).2]) ∧ Below w.heap.size w w' := rparse_any (mk x) w hs

set_option maxRecDepth 100000 in
set_option maxHeartbeats 4000000 in
theorem rpparse_head (s : ByteArray) (w : World) (hs : s.size ≤ 1000) (hno : ∀ x y z, cutL s.data.toList = [x, y, z] → (parseP x).2 = 0 → (parseP y).2 = 0 → False) : Calls Tryz.prog 51 #[.string s] w fun e W' => e = .returned (.tuple #[encQ (perR s.data.toList).1, .int .i64 (perR s.data.toList).2]) ∧ Below w.heap.size w W' := by
  have hbR : BoxAt (w.alloc (.cells #[.int .i64 0, .int .i64 0, .int .i64 0] perT)) w.heap.size (0, 0, 0) := heap_alloc_new w _
  have hb0 : Below w.heap.size w (w.alloc (.cells #[.int .i64 0, .int .i64 0, .int .i64 0] perT)) := bel_alloc w _
  by_cases h : (cutL s.data.toList).length = 3
  case neg =>
    have HR := Lib.hid (perR_len h)
    have CS := Lib.hid (rcut_no s hs h)
    clear h
    go_enter Tryz.func51, Tryz.ntmps51
    go_wp2_with (go_at_call 121; refine (CS.out _).mono ?_; rintro e w1 ⟨A, n, c, rfl, t1, hb⟩; have hR2 := hbR.more hb; have c0 := hR2.cell.1; have c1 := hR2.cell.2.1; have c2 := hR2.cell.2.2; have f0 := hR2.frozen 0; have f1 := hR2.frozen 1; have f2 := hR2.frozen 2)
    obtain ⟨h1, h2⟩ := hR2.result (0, 0, 0) (by omega) (hb0.trans (hb.mono (by simp)))
    obtain ⟨d0, d1, d2⟩ := h1.cell
    refine bodyPost_ret (v := .tuple #[encQ (0, 0, 0), .int .i64 3]) ?_ rfl ⟨by rw [HR.out], h2⟩
    simp [results, Tryz.results51, go_sem, d0, d1, d2]
  obtain ⟨x, y, z, hxyz⟩ : ∃ x y z, cutL s.data.toList = [x, y, z] := by
    match hc : cutL s.data.toList, h with
    | [x, y, z], _ => exact ⟨x, y, z, rfl⟩
  have CS := Lib.hid (rcut_yes s hs hxyz)
  have hl : s.data.toList.length = s.size := by simp
  have lx : x.length ≤ 1000 := by have := cut_part_le s.data.toList x (by rw [hxyz]; simp); omega
  have ly : y.length ≤ 1000 := by have := cut_part_le s.data.toList y (by rw [hxyz]; simp); omega
  have lz : z.length ≤ 1000 := by have := cut_part_le s.data.toList z (by rw [hxyz]; simp); omega
  have CX := Lib.hid (fun W => brparse_any x W lx)
  have CY := Lib.hid (fun W => brparse_any y W ly)
  have HP := perR_three hxyz
  have hno := Lib.hid (hno x y z hxyz)
  clear hxyz h hl lx ly lz
  by_cases ea : (parseP x).2 = 0
  case neg =>
    have HR := Lib.hid (HP.trans (per3_a ea))
    have t2 := ne_true ea
    clear HP CY ea
    generalize (parseP x).1 = f at *
    generalize (parseP x).2 = e1 at *
    generalize mk x = X at *
    generalize mk y = Y at *
    generalize mk z = Z at *
    go_enter Tryz.func51, Tryz.ntmps51
    go_wp2_with (first
      | (go_at_call 121; refine (CS.out _).mono ?_; rintro e w1 ⟨b, o, c, rfl, hP, hb⟩; have hR1 := hbR.more hb; have p0 := hP.c0)
      | (go_at_call 122; refine (CX.out _).mono ?_; rintro e w2 ⟨rfl, hb2⟩; have hR2 := hR1.more hb2; have c0 := hR2.cell.1; have c1 := hR2.cell.2.1; have c2 := hR2.cell.2.2; have f0 := hR2.frozen 0; have f1 := hR2.frozen 1; have f2 := hR2.frozen 2))
    have hs1 := hb0.trans (hb.mono (by simp))
    obtain ⟨h1, h2⟩ := hR2.result (0, 0, 0) (by omega) (hs1.trans (hb2.mono hs1.size))
    obtain ⟨d0, d1, d2⟩ := h1.cell
    refine bodyPost_ret (v := .tuple #[encQ (0, 0, 0), .int .i64 e1]) ?_ rfl ⟨by rw [HR.out], h2⟩
    simp [results, Tryz.results51, go_sem, d0, d1, d2]
  by_cases eb : (parseP y).2 = 0
  case neg =>
    have HR := Lib.hid (HP.trans (per3_b ea eb))
    have t2 := ne_true eb
    rw [ea] at CX
    clear HP ea eb
    generalize (parseP x).1 = f at *
    generalize (parseP y).1 = g at *
    generalize (parseP y).2 = e2 at *
    generalize mk x = X at *
    generalize mk y = Y at *
    generalize mk z = Z at *
    go_enter Tryz.func51, Tryz.ntmps51
    go_wp2_with (first
      | (go_at_call 121; refine (CS.out _).mono ?_; rintro e w1 ⟨b, o, c, rfl, hP, hb⟩; have hR1 := hbR.more hb; have p0 := hP.c0)
      | (go_at_call 122; first | (with_reducible refine (CX.out _).mono ?_; rintro e w2 ⟨rfl, hb2⟩; have hR2 := hR1.more hb2; have p1 := (hP.more hb2).c1) | (with_reducible refine (CY.out _).mono ?_; rintro e w3 ⟨rfl, hb3⟩; have hR3 := hR2.more hb3; have c0 := hR3.cell.1; have c1 := hR3.cell.2.1; have c2 := hR3.cell.2.2; have f0 := hR3.frozen 0; have f1 := hR3.frozen 1; have f2 := hR3.frozen 2)))
    have hs1 := hb0.trans (hb.mono (by simp))
    have hs2 := hs1.trans (hb2.mono hs1.size)
    obtain ⟨h1, h2⟩ := hR3.result (0, 0, 0) (by omega) (hs2.trans (hb3.mono hs2.size))
    obtain ⟨d0, d1, d2⟩ := h1.cell
    refine bodyPost_ret (v := .tuple #[encQ (0, 0, 0), .int .i64 e2]) ?_ rfl ⟨by rw [HR.out], h2⟩
    simp [results, Tryz.results51, go_sem, d0, d1, d2]
  exact (hno.out ea eb).elim

end Go.Proofs.YtmmpalnalogfnaaGreatDoor.Per

/- Walk of the reference's Parse, where the first parts are dates. -/
namespace Go.Proofs.YtmmpalnalogfnaaGreatDoor.Per
open Go.RowKit
set_option linter.unusedSimpArgs false
set_option linter.unusedVariables false

theorem BoxAt.below {W W' : World} {B P : Nat} {p : Per} (h : BoxAt W B p) (hP : B < P) (hb : Below P W W') : BoxAt W' B p := (hb.block B hP).trans h
theorem Parts3.below {w w' : World} {b o P : Nat} {x y z : ByteArray} (h : Parts3 w b o x y z) (hP : b < P) (hP2 : P ≤ w'.heap.size) (hb : Below P w w') : Parts3 w' b o x y z :=
  ⟨Nat.lt_of_lt_of_le hP hP2, (hb.cell (p := ⟨b, o, none⟩) hP).trans h.c0, (hb.cell (p := ⟨b, o + 1, none⟩) hP).trans h.c1, (hb.cell (p := ⟨b, o + 2, none⟩) hP).trans h.c2⟩
theorem per3_c3 {a b c : List UInt8} (h0 : (parseP a).2 = 0) (h1 : (parseP b).2 = 0) (h : dgF 0 c = (0, 3)) : per3 a b c = ((0, 0, 0), 3) := by
  rw [per3_c h0 h1 (by rw [h]; decide), h]
theorem pow_in (j : Nat) (h : j ≤ 6) : 1 ≤ 2 ^ j ∧ 2 ^ j ≤ 64 := by
  have : j = 0 ∨ j = 1 ∨ j = 2 ∨ j = 3 ∨ j = 4 ∨ j = 5 ∨ j = 6 := by omega
  rcases this with rfl | rfl | rfl | rfl | rfl | rfl | rfl <;> decide
/-- the greatest weekday of d is e -/
def topW (d e : Nat) : Prop := (e = 0 ∧ d = 0) ∨ (1 ≤ e ∧ e ≤ 7 ∧ 2 ^ (e - 1) ≤ d ∧ d < 2 ^ e)
theorem top_old {d e n : Nat} (h : topW d e) (h1 : 1 ≤ n) (hn : n ≤ e) : 2 ^ (n - 1) ≤ d := by
  rcases h with ⟨rfl, _⟩ | ⟨_, _, h2, _⟩
  · omega
  · exact Nat.le_trans (Nat.pow_le_pow_right (by omega) (by omega)) h2
theorem top_new {d e n : Nat} (h : topW d e) (hn : e < n) : ¬ 2 ^ (n - 1) ≤ d := by
  rcases h with ⟨rfl, rfl⟩ | ⟨h0, _, _, h3⟩
  · have := Nat.pow_pos (n := n - 1) (show 0 < 2 by omega); omega
  · have := Nat.pow_le_pow_right (n := 2) (by omega) (show e ≤ n - 1 by omega); omega
theorem top_next {d e n : Nat} (h : topW d e) (hn : e < n) (h7 : n ≤ 7) : topW (d + 2 ^ (n - 1)) n := by
  right
  have h1 := top_new h hn
  have h2 : 2 ^ n = 2 * 2 ^ (n - 1) := by rw [show n = (n - 1) + 1 by omega, Nat.pow_succ]; simp; omega
  refine ⟨by omega, h7, by omega, by omega⟩
theorem top_lt {d e : Nat} (h : topW d e) : d < 128 := by
  rcases h with ⟨_, rfl⟩ | ⟨_, h7, _, h3⟩
  · omega
  · have := Nat.pow_le_pow_right (n := 2) (by omega) h7; omega

set_option maxRecDepth 100000 in
set_option maxHeartbeats 4000000 in
theorem rpparse_main (s : ByteArray) (w : World) (hs : s.size ≤ 1000) (x y z : List UInt8) (hxyz : cutL s.data.toList = [x, y, z]) (ea : (parseP x).2 = 0) (eb : (parseP y).2 = 0) :
    Calls Tryz.prog 51 #[.string s] w fun e W' => e = .returned (.tuple #[encQ (perR s.data.toList).1, .int .i64 (perR s.data.toList).2]) ∧ Below w.heap.size w W' := by
  have hbR : BoxAt (w.alloc (.cells #[.int .i64 0, .int .i64 0, .int .i64 0] perT)) w.heap.size (0, 0, 0) := heap_alloc_new w _
  have hb0 : Below w.heap.size w (w.alloc (.cells #[.int .i64 0, .int .i64 0, .int .i64 0] perT)) := bel_alloc w _
  have CS := Lib.hid (rcut_yes s hs hxyz)
  have hl : s.data.toList.length = s.size := by simp
  have lx : x.length ≤ 1000 := by have := cut_part_le s.data.toList x (by rw [hxyz]; simp); omega
  have ly : y.length ≤ 1000 := by have := cut_part_le s.data.toList y (by rw [hxyz]; simp); omega
  have lz : z.length ≤ 1000 := by have := cut_part_le s.data.toList z (by rw [hxyz]; simp); omega
  have CX := Lib.hid (fun W => brparse_any x W lx)
  have CY := Lib.hid (fun W => brparse_any y W ly)
  have HP := perR_three hxyz
  have H3 : Hid (dgF 0 z = (0, 3) → perR s.data.toList = ((0, 0, 0), 3)) := Lib.hid (fun h => HP.trans (per3_c3 ea eb h))
  have HD : Hid (∀ d : Int, dgF 0 z = (d, 0) → errQ ((parseP x).1, (parseP y).1, d) ≠ 0 → perR s.data.toList = ((0, 0, 0), errQ ((parseP x).1, (parseP y).1, d))) := Lib.hid (fun d h he => by
    have h2 : (dgF 0 z).1 = d := by rw [h]
    rw [HP, per3_d ea eb (by rw [h]) (by rw [h2]; exact he), h2])
  have HO : Hid (∀ d : Int, dgF 0 z = (d, 0) → errQ ((parseP x).1, (parseP y).1, d) = 0 → perR s.data.toList = (((parseP x).1, (parseP y).1, d), 0)) := Lib.hid (fun d h he => by
    have h2 : (dgF 0 z).1 = d := by rw [h]
    rw [HP, per3_ok ea eb (by rw [h]) (by rw [h2]; exact he), h2])
  have CK := Lib.hid (fun (d : Int) W => rcheck_any (parseP x).1 (parseP y).1 d W)
  rw [ea] at CX
  rw [eb] at CY
  clear HP ea eb hxyz lx ly
  obtain ⟨Z, hZ⟩ : ∃ Z, Z = mk z := ⟨_, rfl⟩
  have hZ2 : Z.data.toList = z := by rw [hZ]
  have hzs : Z.size ≤ 1000 := by rw [hZ]; exact lz
  rw [← hZ] at CS
  rw [← hZ2] at H3 HD HO
  clear hZ hZ2 lz hl
  generalize (parseP x).1 = f at *
  generalize (parseP y).1 = g at *
  generalize mk x = X at *
  generalize mk y = Y at *
  go_enter Tryz.func51, Tryz.ntmps51
  go_wp2_with (first
      | (go_at_call 121; refine (CS.out _).mono ?_; rintro e w1 ⟨b, o, c, rfl, hP, hb⟩; have hR1 := hbR.more hb; have p0 := hP.c0)
      | (go_at_call 122; first | (with_reducible refine (CX.out _).mono ?_; rintro e w2 ⟨rfl, hb2⟩; have hR2 := hR1.more hb2; have p1 := (hP.more hb2).c1) | (with_reducible refine (CY.out _).mono ?_; rintro e w3 ⟨rfl, hb3⟩; have hR3 := hR2.more hb3; have hP3 := (hP.more hb2).more hb3)))
  have hs1 := hb0.trans (hb.mono (by simp))
  have hs2 := hs1.trans (hb2.mono hs1.size)
  have hs3 := hs2.trans (hb3.mono hs2.size)
  have hRlt := hR3.lt
  have hblt := hP3.lt
  have hsz := hs3.size
  have hR4 := hR3.more (bel_alloc w3 (.cells #[.int .i64 f, .int .i64 g, .int .i64 0] perT))
  have hP4 := hP3.more (bel_alloc w3 (.cells #[.int .i64 f, .int .i64 g, .int .i64 0] perT))
  have hQ4 := newBox w3 (f, g, 0)
  have hs4 := hs3.alloc hsz (.cells #[.int .i64 f, .int .i64 g, .int .i64 0] perT)
  have hgr : w3.heap.size ≤ (w3.alloc (.cells #[.int .i64 f, .int .i64 g, .int .i64 0] perT)).heap.size := by simp
  clear p0 p1 hP hb hb2 hb3 hR1 hR2 hs1 hs2 hs3 hR3 hP3
  obtain ⟨P, hPd⟩ : ∃ P, P = w3.heap.size := ⟨_, rfl⟩
  rw [← hPd] at hQ4 hRlt hblt hsz hgr ⊢
  dsimp only at hQ4
  generalize w3.alloc (.cells #[.int .i64 f, .int .i64 g, .int .i64 0] perT) = wA at *
  clear hPd
  go_loopw [10, 11, 12, 13] (fun vl vu va vi wr => ∃ k d e a u : Nat, k ≤ Z.size ∧ vl = .int .i64 (e : Int) ∧ vu = .int .i64 (u : Int) ∧ va = .int .i64 (a : Int) ∧ vi = .int .i64 (k : Int) ∧ e ≤ 7 ∧ 1 ≤ a ∧ a ≤ 7 ∧ a ≤ e + 1 ∧ (1 ≤ e → a ≤ e) ∧ d < 128 ∧ 1 ≤ u ∧ u ≤ 64 ∧ Hid (u = 2 ^ (a - 1)) ∧ Hid (topW d e) ∧ Hid (dgF 0 Z.data.toList = dgF d (Z.data.toList.drop k)) ∧ BoxAt wr P (f, g, (d : Int)) ∧ Below P wA wr) (fun _ _ _ vi _ => Z.size - (intOf vi).toNat)
  case atStart => exact ⟨0, 0, 0, 1, 1, by omega, rfl, rfl, rfl, rfl, by omega, by omega, by omega, by omega, by omega, by omega, by omega, by omega, Lib.hid rfl, Lib.hid (.inl ⟨rfl, rfl⟩), Lib.hid rfl, hQ4, Below.refl _ _⟩
  case round =>
    obtain ⟨k, d, e, a, u, hk, rfl, rfl, rfl, rfl, he7, ha1, ha7, hae, hae2, hd, hu1, hu64, HU, HT, HG, hQ, hbP⟩ := hrel
    have hPr := hP4.below hblt (Nat.le_trans hgr hbP.size) hbP
    have hRr := hR4.below hRlt hbP
    have hwr := hs4.trans (hbP.mono hsz)
    have p2 := hPr.c2
    have c0 := hRr.cell.1
    have c1 := hRr.cell.2.1
    have c2 := hRr.cell.2.2
    have f0 := hRr.frozen 0
    have f1 := hRr.frozen 1
    have f2 := hRr.frozen 2
    by_cases hlt : k < Z.size
    · have i1 : (k : Int) < (Z.size : Int) := by omega
      have HA := Lib.hid (at_byte Z k hlt)
      by_cases c1' : (Z[k].toNat : Int) - 48 ≤ (e : Int)
      · have HR : Hid (perR s.data.toList = ((0, 0, 0), 3)) := Lib.hid (H3.out (by
          rw [HG.out, HA.out]
          by_cases h9 : (Z[k].toNat : Int) < 49
          · exact dg_low h9
          · have h := top_old HT.out (n := Z[k].toNat - 48) (by omega) (by omega)
            exact dg_old (by rw [show Z[k].toNat - 49 = Z[k].toNat - 48 - 1 by omega]; exact h)))
        clear HG HA HT HU
        go_wp2
        obtain ⟨h1, h2⟩ := hRr.result (0, 0, 0) (by omega) hwr
        obtain ⟨d0, d1, d2⟩ := h1.cell
        refine bodyPost_ret (v := .tuple #[encQ (0, 0, 0), .int .i64 3]) ?_ rfl ⟨by rw [HR.out], h2⟩
        simp [results, Tryz.results51, go_sem, d0, d1, d2]
      obtain ⟨n, hn⟩ : ∃ n : Nat, Z[k].toNat = n + 48 := ⟨Z[k].toNat - 48, by omega⟩
      have cn : (Z[k].toNat : Int) = (n : Int) + 48 := by omega
      have nb : n ≤ 207 := by have := UInt8.toNat_lt Z[k]; omega
      have en : e < n := by omega
      have q1 : ¬ (n : Int) ≤ (e : Int) := by omega
      by_cases c2' : 7 < n
      · have HR : Hid (perR s.data.toList = ((0, 0, 0), 3)) := Lib.hid (H3.out (by rw [HG.out, HA.out]; exact dg_high (by omega)))
        have q2 : (7 : Int) < (n : Int) := by omega
        clear HG HA HT HU c1' hn
        go_wp2
        obtain ⟨h1, h2⟩ := hRr.result (0, 0, 0) (by omega) hwr
        obtain ⟨d0, d1, d2⟩ := h1.cell
        refine bodyPost_ret (v := .tuple #[encQ (0, 0, 0), .int .i64 3]) ?_ rfl ⟨by rw [HR.out], h2⟩
        simp [results, Tryz.results51, go_sem, d0, d1, d2]
      have HG2 : Hid (dgF 0 Z.data.toList = dgF (d + 2 ^ (n - 1)) (Z.data.toList.drop (k + 1))) := Lib.hid (by
        rw [HG.out, HA.out, dg_next (by omega) (by omega) (by rw [show Z[k].toNat - 49 = n - 1 by omega]; exact top_new HT.out en), show Z[k].toNat - 49 = n - 1 by omega])
      have HT2 := Lib.hid (top_next HT.out en (by omega))
      have q2 : ¬ (7 : Int) < (n : Int) := by omega
      have an : a ≤ n := by omega
      clear HG HA HT c1' hn
      have n7 : n ≤ 7 := by omega
      have k2 := hQ.cell.2.2
      have g2 := hQ.frozen 2
      dsimp only at k2
      go_wp2
      go_loop [11, 12] (fun vu va => ∃ a u : Nat, vu = .int .i64 (u : Int) ∧ va = .int .i64 (a : Int) ∧ 1 ≤ a ∧ a ≤ n ∧ 1 ≤ u ∧ u ≤ 64 ∧ Hid (u = 2 ^ (a - 1))) (fun _ va => n - (intOf va).toNat)
      case atStart => exact ⟨a, u, rfl, rfl, ha1, an, hu1, hu64, HU⟩
      case round =>
        obtain ⟨a2, u2, rfl, rfl, ka1, kan, ku1, ku2, KU⟩ := hrel
        by_cases hl2 : a2 < n
        · have j1 : (a2 : Int) < (n : Int) := by omega
          have KU2 : Hid (2 * u2 = 2 ^ (a2 + 1 - 1)) := Lib.hid (by rw [KU.out, show a2 + 1 - 1 = (a2 - 1) + 1 by omega, Nat.pow_succ, Nat.mul_comm])
          have ku3 : 2 * u2 ≤ 64 := by have h := (pow_in (a2 + 1 - 1) (by omega)).2; rw [KU2.out]; exact h
          clear KU
          go_wp2
          go_round
          case rel => exact ⟨a2 + 1, 2 * u2, by go_num, by go_num, by omega, by omega, by omega, ku3, KU2⟩
          case measure => simp [intOf]; omega
        · have e2 : a2 = n := by omega
          subst e2
          have HG3 : Hid (dgF 0 Z.data.toList = dgF (d + u2) (Z.data.toList.drop (k + 1))) := Lib.hid (by rw [KU.out]; exact HG2.out)
          have HT3 : Hid (topW (d + u2) a2) := Lib.hid (by rw [KU.out]; exact HT2.out)
          have hd3 := top_lt HT3.out
          have hQ3 := hQ.set2 ((d : Int) + (u2 : Int))
          have hb3 := hbP.setCell (p := ⟨P, 2, none⟩) (Nat.le_refl _) (.int .i64 ((d : Int) + (u2 : Int)))
          clear HG2 HT2
          go_wp2
          go_roundw
          case rel => exact ⟨k + 1, d + u2, a2, a2, u2, by omega, rfl, rfl, rfl, by go_num, n7, ka1, n7, by omega, by omega, hd3, ku1, ku2, KU, HT3, HG3, by first | exact hQ3 | (have h := hQ3; rw [← Int.natCast_add] at h; exact h), hb3⟩
          case measure => simp [intOf]; omega
    · have e' : k = Z.size := by omega
      subst e'
      have HE : Hid (dgF 0 Z.data.toList = dgF d []) := Lib.hid (by rw [HG.out, List.drop_eq_nil_of_le (by simp)])
      clear HG
      by_cases hz : e = 0
      · subst hz
        have hd0 : d = 0 := by
          rcases HT.out with ⟨_, h⟩ | ⟨h, _⟩
          · exact h
          · omega
        have HR : Hid (perR s.data.toList = ((0, 0, 0), 3)) := Lib.hid (H3.out (by rw [HE.out, hd0]; rfl))
        clear HE HT HU hd0
        go_wp2
        obtain ⟨h1, h2⟩ := hRr.result (0, 0, 0) (by omega) hwr
        obtain ⟨d0, d1, d2⟩ := h1.cell
        refine bodyPost_ret (v := .tuple #[encQ (0, 0, 0), .int .i64 3]) ?_ rfl ⟨by rw [HR.out], h2⟩
        simp [results, Tryz.results51, go_sem, d0, d1, d2]
      have hdn : d ≠ 0 := by
        rcases HT.out with ⟨h, _⟩ | ⟨h0, _, h, _⟩
        · omega
        · have := Nat.pow_pos (n := e - 1) (show 0 < 2 by omega); omega
      have HE2 : Hid (dgF 0 Z.data.toList = ((d : Int), 0)) := Lib.hid (by rw [HE.out, dgF, if_neg hdn])
      have q1 : ((e : Int) == 0) = false := by rw [beq_eq_false_iff_ne]; omega
      have v0 := hQ.cell.1
      have v1 := hQ.cell.2.1
      have v2 := hQ.cell.2.2
      have CK2 := Lib.hid (fun W => CK.out (d : Int) W)
      by_cases ed : errQ (f, g, (d : Int)) = 0
      · have HR := Lib.hid (HO.out _ HE2.out ed)
        rw [ed] at CK2
        clear HE HT HU hz hdn HE2 ed
        go_wp2_with (go_at_call 104; refine (CK2.out _).mono ?_; rintro e w5 ⟨rfl, hb5⟩; have hR5 := hRr.more hb5; have hQ5 := hQ.more hb5; have v0 := hQ5.cell.1; have v1 := hQ5.cell.2.1; have v2 := hQ5.cell.2.2; have c0 := hR5.cell.1; have c1 := hR5.cell.2.1; have c2 := hR5.cell.2.2; have f0 := hR5.frozen 0; have f1 := hR5.frozen 1; have f2 := hR5.frozen 2)
        obtain ⟨h1, h2⟩ := hR5.result (f, g, (d : Int)) (by omega) (hwr.trans (hb5.mono hwr.size))
        obtain ⟨d0, d1, d2⟩ := h1.cell
        refine bodyPost_ret (v := .tuple #[encQ (f, g, (d : Int)), .int .i64 0]) ?_ rfl ⟨by rw [HR.out], h2⟩
        simp [results, Tryz.results51, go_sem, d0, d1, d2]
      · have HR := Lib.hid (HD.out _ HE2.out ed)
        have t2 := ne_true ed
        clear HE HT HU hz hdn HE2 ed
        generalize errQ (f, g, (d : Int)) = er at *
        go_wp2_with (go_at_call 104; refine (CK2.out _).mono ?_; rintro e w5 ⟨rfl, hb5⟩; have hwr := hwr.trans (hb5.mono hwr.size); have hRr := hRr.more hb5; have hQ := hQ.more hb5; have v0 := hQ.cell.1; have v1 := hQ.cell.2.1; have v2 := hQ.cell.2.2; have c0 := hRr.cell.1; have c1 := hRr.cell.2.1; have c2 := hRr.cell.2.2; have f0 := hRr.frozen 0; have f1 := hRr.frozen 1; have f2 := hRr.frozen 2)
        obtain ⟨h1, h2⟩ := hRr.result (0, 0, 0) (by omega) hwr
        obtain ⟨d0, d1, d2⟩ := h1.cell
        refine bodyPost_ret (v := .tuple #[encQ (0, 0, 0), .int .i64 er]) ?_ rfl ⟨by rw [HR.out], h2⟩
        simp [results, Tryz.results51, go_sem, d0, d1, d2]

theorem rpparse_any (s : ByteArray) (w : World) (hs : s.size ≤ 1000) : Calls Tryz.prog 51 #[.string s] w fun e W' => e = .returned (.tuple #[encQ (perR s.data.toList).1, .int .i64 (perR s.data.toList).2]) ∧ Below w.heap.size w W' := by
  by_cases h : ∃ x y z, cutL s.data.toList = [x, y, z] ∧ (parseP x).2 = 0 ∧ (parseP y).2 = 0
  · obtain ⟨x, y, z, h, ea, eb⟩ := h
    exact rpparse_main s w hs x y z h ea eb
  · exact rpparse_head s w hs (fun x y z h1 h2 h3 => h ⟨x, y, z, h1, h2, h3⟩)

end Go.Proofs.YtmmpalnalogfnaaGreatDoor.Per

/- Walk of the reference's Parse of a flight. -/
namespace Go.Proofs.YtmmpalnalogfnaaGreatDoor
open Go.RowKit Go.Shelf
set_option linter.unusedSimpArgs false
set_option linter.unusedVariables false

theorem rtLp : RT Tryz.prog 24 legT 5 encLg where
  ht := Tryz.underlying24
  info := ⟨.agg #[.string noB, .string noB, .int .i64 0, .int .i64 0, .string noB], 64, by kernel_rfl, rfl, by omega⟩
  len x := rfl
  one x u hu := by simp [encLg] at hu; rcases hu with rfl | rfl | rfl | rfl | rfl <;> rfl
  pos := by omega
theorem rwords_x (s : ByteArray) (ss : List ByteArray) (w : World) (hs : s.size ≤ 1000) (h : s.data.toList = joinL (bytesOf ss)) :
    Calls Tryz.prog 49 #[.string s] w fun e w' => ∃ A c, e = .returned (.tuple #[.slice A ss.length c, .int .i64 0]) ∧ StrL w' (.slice A ss.length c) ss ∧ Below w.heap.size w w' :=
  (Txt.rwords_yes s _ w hs h).mono (by
    rintro e w' ⟨⟨v, ss', rfl, hv, hb⟩, hB⟩
    obtain rfl := bytesOf_inj hb
    obtain ⟨A, c, rfl, _⟩ := id hv
    exact ⟨A, c, rfl, hv, hB⟩)
/-- the flight that is gathered, in its block -/
def BoxF (w : World) (M : Nat) (s0 : ByteArray) (v1 pf pt pd : Int) (v : Value) : Prop := w.heap[M]? = some (.cells #[.string s0, .int .i64 v1, .int .i64 pf, .int .i64 pt, .int .i64 pd, v] fliT (0, 0))
theorem BoxF.more {w w' : World} {M : Nat} {s0 : ByteArray} {v1 pf pt pd : Int} {v : Value} (h : BoxF w M s0 v1 pf pt pd v) (hb : Below w.heap.size w w') : BoxF w' M s0 v1 pf pt pd v := (hb.block M (lt_heap h)).trans h
theorem BoxF.c5 {w : World} {M : Nat} {s0 : ByteArray} {v1 pf pt pd : Int} {v : Value} (h : BoxF w M s0 v1 pf pt pd v) : w.cell? ⟨M, 5, none⟩ = some v := (cell_of_row w M 5 _ _ (0, 0) h).trans rfl
theorem BoxF.set {w : World} {M : Nat} {s0 : ByteArray} {v1 pf pt pd : Int} {v : Value} (h : BoxF w M s0 v1 pf pt pd v) (u : Value) : BoxF (w.setCell ⟨M, 5, none⟩ u) M s0 v1 pf pt pd u := heap_setCell_same w M 5 _ fliT u h
theorem own_form {α : Type} {enc : α → List Value} {e : TypeId} {sz B : Nat} {w : World} {v : Value} {l : List α} (h : ROwn e sz enc B w v l) : ∃ A c, v = .slice A l.length c := by
  obtain ⟨A, c, e, _⟩ : ∃ A c, v = .slice A l.length c ∧ True := by
    rcases h.own.2 with ⟨rfl, h0⟩ | ⟨g, cap, cur, rfl, _⟩
    · exact ⟨none, 0, by rw [h0], trivial⟩
    · exact ⟨_, _, rfl, trivial⟩
  exact ⟨A, c, e⟩
theorem ROwn.far {α : Type} {enc : α → List Value} {e : TypeId} {sz B M j : Nat} {w : World} {v u : Value} {l : List α} (h : ROwn e sz enc B w v l) (hM : M < B) : ROwn e sz enc B (w.setCell ⟨M, j, none⟩ u) v l := by
  have hb := But.setCell w M j u
  refine ⟨⟨h.own.1, ?_⟩, Nat.le_trans h.base hb.size⟩
  rcases h.own.2 with h1 | ⟨g, cap, cur, h1, h2, h3, h4⟩
  · exact .inl h1
  · exact .inr ⟨g, cap, cur, h1, h2, (hb.block g (lt_heap h3) (fun e => by have e' : g = M := e; omega)).trans h3, h4⟩
theorem own_offM {α : Type} {enc : α → List Value} {e : TypeId} {sz B : Nat} {w : World} {v : Value} {l : List α} (h : ROwn e sz enc B w v l) : ∀ b o n c, v = .slice (some ⟨b, o, none⟩) n c → B ≤ b := Per.own_off h.own
theorem lgsR_succ (ss : List ByteArray) (k : Nat) : lgsR ss (k + 1) = lgsR ss k ++ [lgAt ss k] := by simp [lgsR, List.range_succ]
set_option maxRecDepth 100000 in
set_option maxHeartbeats 8000000 in
theorem rfparse_yes (s : ByteArray) (ss : List ByteArray) (w : World) (hs : s.size ≤ 1000) (h : s.data.toList = joinL (bytesOf ss)) :
    Calls Tryz.prog 14 #[.string s] w (Pars ss w) := by
  have hb0 := bel_alloc w (.cells #[.string noB, .int .i64 0, .int .i64 0, .int .i64 0, .int .i64 0, .slice none 0 0] fliT)
  have hN := heap_alloc_new w (.cells #[.string noB, .int .i64 0, .int .i64 0, .int .i64 0, .int .i64 0, .slice none 0 0] fliT)
  have KW0 := Lib.hid (fun W => rwords_x s ss W hs h)
  have HWS := Lib.hid (fun k => Nat.le_trans (wd_size h k) hs)
  have HOK := Lib.hid (lgsR_ok h (by omega))
  have hnl := ss_len h
  have HB0 := Lib.hid hb0
  clear h
  go_enter Tryz.func14, Tryz.ntmps14
  go_upto_region 1 with fail
  generalize hw5 : w.alloc (.cells #[.string noB, .int .i64 0, .int .i64 0, .int .i64 0, .int .i64 0, .slice none 0 0] fliT) = w5 at *
  clear hw5
  have HN := Lib.hid hN
  have HLT5 : Hid (w.heap.size < w5.heap.size) := Lib.hid (lt_heap hN)
  clear hN hb0
  go_upto_region 4 with (go_at_call 49; refine (KW0.out _).mono ?_; rintro e w1 ⟨A1, c1, rfl, hv1, hS1⟩)
  obtain ⟨n, hn⟩ : ∃ n, n = ss.length := ⟨_, rfl⟩
  have HNN := Lib.hid hn
  rw [← hn] at hnl hv1 ⊢
  clear hn
  have hSw : SW w5 w1 := hS1
  by_cases l8 : n < 8
  case pos =>
    have i1 : (n : Int) < 8 := by omega
    have HPE : Hid (paE ss = 3) := Lib.hid (by unfold paE lenB; rw [← HNN.out]; simp; omega)
    have HNE : Hid ((3 : Int) ≠ 0) := Lib.hid (by omega)
    go_upto_region 5 with fail
    have hx := (hSw.block _ HLT5.out).trans HN.out
    have n0 := (cell_of_row _ _ 0 _ _ (0, 0) hx).trans (show _ = some _ from rfl)
    have n1 := (cell_of_row _ _ 1 _ _ (0, 0) hx).trans (show _ = some _ from rfl)
    have n2 := (cell_of_row _ _ 2 _ _ (0, 0) hx).trans (show _ = some _ from rfl)
    have n3 := (cell_of_row _ _ 3 _ _ (0, 0) hx).trans (show _ = some _ from rfl)
    have n4 := (cell_of_row _ _ 4 _ _ (0, 0) hx).trans (show _ = some _ from rfl)
    have n5 := (cell_of_row _ _ 5 _ _ (0, 0) hx).trans (show _ = some _ from rfl)
    have z0 := frozen_of_row _ _ 0 _ _ hx
    have z1 := frozen_of_row _ _ 1 _ _ hx
    have z2 := frozen_of_row _ _ 2 _ _ hx
    have z3 := frozen_of_row _ _ 3 _ _ hx
    have z4 := frozen_of_row _ _ 4 _ _ hx
    have z5 := frozen_of_row _ _ 5 _ _ hx
    have hwb := HB0.out.trans (Below.mono hSw HB0.out.size)
    have HX2 : Hid (∀ W, W = T6 w1 w.heap.size (.string noB) (.int .i64 0) (.int .i64 0) (.int .i64 0) (.int .i64 0) (.slice none 0 0) → W.heap[w.heap.size]? = some (.cells #[.string noB, .int .i64 0, .int .i64 0, .int .i64 0, .int .i64 0, .slice none 0 0] fliT (0, 0)) ∧ Hid (But w1 W (fun k => k = w.heap.size)) ∧ Below w.heap.size w W) := Lib.hid (fun W h => by rw [h]; exact ⟨T6.heap hx _ _ _ _ _ _, Lib.hid (T6.but _ _ _ _ _ _ _ _), hwb.trans ((T6.but _ _ _ _ _ _ _ _).below hwb.size (fun k hk he => by have : k = w.heap.size := he; omega))⟩)
    clear hx hwb
    go_wp2
    obtain ⟨hxx, HBT, hbb⟩ := HX2.out _ rfl
    unfold T6 at hxx hbb HBT
    generalize hWW : (((((w1.setCell ⟨w.heap.size, 0, none⟩ (.string noB)).setCell ⟨w.heap.size, 1, none⟩ (.int .i64 0)).setCell ⟨w.heap.size, 2, none⟩ (.int .i64 0)).setCell ⟨w.heap.size, 3, none⟩ (.int .i64 0)).setCell ⟨w.heap.size, 4, none⟩ (.int .i64 0)).setCell ⟨w.heap.size, 5, none⟩ (.slice none 0 0) = WW at *
    clear hWW n0 n1 n2 n3 n4 n5 z0 z1 z2 z3 z4 z5
    have c0 := (cell_of_row WW _ 0 _ _ (0, 0) hxx).trans (show _ = some _ from rfl)
    have c1 := (cell_of_row WW _ 1 _ _ (0, 0) hxx).trans (show _ = some _ from rfl)
    have c2 := (cell_of_row WW _ 2 _ _ (0, 0) hxx).trans (show _ = some _ from rfl)
    have c3 := (cell_of_row WW _ 3 _ _ (0, 0) hxx).trans (show _ = some _ from rfl)
    have c4 := (cell_of_row WW _ 4 _ _ (0, 0) hxx).trans (show _ = some _ from rfl)
    have c5 := (cell_of_row WW _ 5 _ _ (0, 0) hxx).trans (show _ = some _ from rfl)
    refine bodyPost_ret (v := .tuple #[encFl fvZ, .int .i64 3]) ?_ rfl ⟨fvZ, by rw [HPE.out], ⟨fun h => absurd (HPE.out.symm.trans h) HNE.out, fun _ => rfl⟩, ⟨none, 0, rfl, .inl rfl⟩, hbb⟩
    simp [results, Tryz.results14, go_sem, c0, c1, c2, c3, c4, c5, fvZ]
  case neg =>
  have i1 : ¬ (n : Int) < 8 := by omega
  obtain ⟨b1, o1, rfl, hbl1, hc1⟩ := strL_wd hv1 (by rw [← HNN.out]; omega)
  rw [← HNN.out] at hc1
  by_cases l5 : (n - 3) % 5 = 0
  case neg =>
    have r1 : ((Int.tmod ((n : Int) - 3) 5) != 0) = true := by rw [show (n : Int) - 3 = ((n - 3 : Nat) : Int) by omega, Int.tmod_eq_emod_of_nonneg (by omega), bne_iff_ne]; omega
    have HPE : Hid (paE ss = 3) := Lib.hid (by unfold paE lenB; rw [← HNN.out]; simp [l5])
    have HNE : Hid ((3 : Int) ≠ 0) := Lib.hid (by omega)
    go_upto_region 5 with fail
    have hx := (hSw.block _ HLT5.out).trans HN.out
    have n0 := (cell_of_row _ _ 0 _ _ (0, 0) hx).trans (show _ = some _ from rfl)
    have n1 := (cell_of_row _ _ 1 _ _ (0, 0) hx).trans (show _ = some _ from rfl)
    have n2 := (cell_of_row _ _ 2 _ _ (0, 0) hx).trans (show _ = some _ from rfl)
    have n3 := (cell_of_row _ _ 3 _ _ (0, 0) hx).trans (show _ = some _ from rfl)
    have n4 := (cell_of_row _ _ 4 _ _ (0, 0) hx).trans (show _ = some _ from rfl)
    have n5 := (cell_of_row _ _ 5 _ _ (0, 0) hx).trans (show _ = some _ from rfl)
    have z0 := frozen_of_row _ _ 0 _ _ hx
    have z1 := frozen_of_row _ _ 1 _ _ hx
    have z2 := frozen_of_row _ _ 2 _ _ hx
    have z3 := frozen_of_row _ _ 3 _ _ hx
    have z4 := frozen_of_row _ _ 4 _ _ hx
    have z5 := frozen_of_row _ _ 5 _ _ hx
    have hwb := HB0.out.trans (Below.mono hSw HB0.out.size)
    have HX2 : Hid (∀ W, W = T6 w1 w.heap.size (.string noB) (.int .i64 0) (.int .i64 0) (.int .i64 0) (.int .i64 0) (.slice none 0 0) → W.heap[w.heap.size]? = some (.cells #[.string noB, .int .i64 0, .int .i64 0, .int .i64 0, .int .i64 0, .slice none 0 0] fliT (0, 0)) ∧ Hid (But w1 W (fun k => k = w.heap.size)) ∧ Below w.heap.size w W) := Lib.hid (fun W h => by rw [h]; exact ⟨T6.heap hx _ _ _ _ _ _, Lib.hid (T6.but _ _ _ _ _ _ _ _), hwb.trans ((T6.but _ _ _ _ _ _ _ _).below hwb.size (fun k hk he => by have : k = w.heap.size := he; omega))⟩)
    clear hx hwb
    go_wp2
    obtain ⟨hxx, HBT, hbb⟩ := HX2.out _ rfl
    unfold T6 at hxx hbb HBT
    generalize hWW : (((((w1.setCell ⟨w.heap.size, 0, none⟩ (.string noB)).setCell ⟨w.heap.size, 1, none⟩ (.int .i64 0)).setCell ⟨w.heap.size, 2, none⟩ (.int .i64 0)).setCell ⟨w.heap.size, 3, none⟩ (.int .i64 0)).setCell ⟨w.heap.size, 4, none⟩ (.int .i64 0)).setCell ⟨w.heap.size, 5, none⟩ (.slice none 0 0) = WW at *
    clear hWW n0 n1 n2 n3 n4 n5 z0 z1 z2 z3 z4 z5
    have c0 := (cell_of_row WW _ 0 _ _ (0, 0) hxx).trans (show _ = some _ from rfl)
    have c1 := (cell_of_row WW _ 1 _ _ (0, 0) hxx).trans (show _ = some _ from rfl)
    have c2 := (cell_of_row WW _ 2 _ _ (0, 0) hxx).trans (show _ = some _ from rfl)
    have c3 := (cell_of_row WW _ 3 _ _ (0, 0) hxx).trans (show _ = some _ from rfl)
    have c4 := (cell_of_row WW _ 4 _ _ (0, 0) hxx).trans (show _ = some _ from rfl)
    have c5 := (cell_of_row WW _ 5 _ _ (0, 0) hxx).trans (show _ = some _ from rfl)
    refine bodyPost_ret (v := .tuple #[encFl fvZ, .int .i64 3]) ?_ rfl ⟨fvZ, by rw [HPE.out], ⟨fun h => absurd (HPE.out.symm.trans h) HNE.out, fun _ => rfl⟩, ⟨none, 0, rfl, .inl rfl⟩, hbb⟩
    simp [results, Tryz.results14, go_sem, c0, c1, c2, c3, c4, c5, fvZ]
  case pos =>
  have r1 : ((Int.tmod ((n : Int) - 3) 5) != 0) = false := by rw [show (n : Int) - 3 = ((n - 3 : Nat) : Int) by omega, Int.tmod_eq_emod_of_nonneg (by omega), bne_eq_false_iff_eq]; omega
  have HLB : Hid (lenB ss = true) := Lib.hid (by unfold lenB; rw [← HNN.out]; simp; omega)
  obtain ⟨m, hm⟩ : ∃ m, m = lgN ss := ⟨_, rfl⟩
  have HM := Lib.hid hm
  have hn5 : n = 3 + 5 * m := by rw [hm, HNN.out]; exact (len_of HLB.out).2.2.1
  have hm1 : 1 ≤ m := by rw [hm]; exact (len_of HLB.out).2.2.2
  have hmb : m ≤ 200 := by omega
  have HN5 := Lib.hid hn5
  clear hm
  have HPE1 : Hid (nuE (wd ss 1) ≠ 0 → paE ss = nuE (wd ss 1)) := Lib.hid (fun h => by unfold paE; rw [if_pos HLB.out, if_neg h])
  have HPE2 : Hid (nuE (wd ss 1) = 0 → (peR ss).2 ≠ 0 → paE ss = (peR ss).2) := Lib.hid (fun h h2 => by unfold paE; rw [if_pos HLB.out, if_pos h, if_neg h2])
  have HPE3 : Hid (nuE (wd ss 1) = 0 → (peR ss).2 = 0 → erL ss m 0 ≠ 0 → paE ss = erL ss m 0) := Lib.hid (fun h h2 h3 => by unfold paE; rw [HM.out] at h3 ⊢; rw [if_pos HLB.out, if_pos h, if_pos h2, if_neg h3])
  have HPE4 : Hid (nuE (wd ss 1) = 0 → (peR ss).2 = 0 → erL ss m 0 = 0 → paE ss = prE (fvR ss none 0)) := Lib.hid (fun h h2 h3 => by unfold paE; rw [HM.out] at h3; rw [if_pos HLB.out, if_pos h, if_pos h2, if_pos h3])
  have HG : Hid (∀ A c, fvR ss A c = ⟨wd ss 0, nuV (wd ss 1), (peR ss).1.1, (peR ss).1.2.1, (peR ss).1.2.2, A, c, lgsR ss m⟩) := Lib.hid (fun A c => by rw [HM.out]; rfl)
  have HOKm := Lib.hid (HOK.out m)
  have HS0 := Lib.hid (HWS.out 0)
  have KN0 : Hid (∀ k W, Calls Tryz.prog 50 #[.string (wd ss k)] W fun e w' => e = .returned (.tuple #[.int .i64 (nuV (wd ss k)), .int .i64 (nuE (wd ss k))]) ∧ W = w') := Lib.hid (fun k W => Txt.rnumber_any (wd ss k) W (Nat.le_trans (HWS.out k) (by omega)))
  have KN1 := Lib.hid (KN0.out 1)
  have KP1 : Hid (∀ W, Calls Tryz.prog 51 #[.string (wd ss 2)] W fun e w' => e = .returned (.tuple #[.agg #[.int .i64 (peR ss).1.1, .int .i64 (peR ss).1.2.1, .int .i64 (peR ss).1.2.2], .int .i64 (peR ss).2]) ∧ Below W.heap.size W w') := Lib.hid (fun W => Per.rpparse_any (wd ss 2) W (HWS.out 2))
  have HC1 : Hid (∀ j, j < n → w1.cell? ⟨b1, o1 + j, none⟩ = some (.string (wd ss j))) := Lib.hid hc1
  have d0 := HC1.out 0 (by omega)
  have d1 := HC1.out 1 (by omega)
  have d2 := HC1.out 2 (by omega)
  rw [Nat.add_zero] at d0
  have j0 : (0 : Int) < (n : Int) := by omega
  have j0n : 0 < n := by omega
  have j1 : (1 : Int) < (n : Int) := by omega
  have j2 : (2 : Int) < (n : Int) := by omega
  clear hv1 HOK HWS HM hn5 hc1 HLB
  obtain ⟨s0, hs0⟩ : ∃ x, x = wd ss 0 := ⟨_, rfl⟩
  rw [← hs0] at d0
  have HG : Hid (∀ A c, fvR ss A c = ⟨s0, nuV (wd ss 1), (peR ss).1.1, (peR ss).1.2.1, (peR ss).1.2.2, A, c, lgsR ss m⟩) := Lib.hid (fun A c => by rw [hs0]; exact HG.out A c)
  have HS0 : Hid (s0.size ≤ 1000) := Lib.hid (by rw [hs0]; exact HS0.out)
  clear hs0
  generalize nuE (wd ss 1) = e1 at *
  generalize nuV (wd ss 1) = v1 at *
  generalize (peR ss).1.1 = pf at *
  generalize (peR ss).1.2.1 = pt at *
  generalize (peR ss).1.2.2 = pd at *
  generalize (peR ss).2 = e2 at *
  go_upto_region 7 with (go_at_call 50; refine (KN1.out _).mono ?_; rintro e w2 ⟨rfl, rfl⟩)
  cases q1 : (e1 != 0) with
  | true =>
    have HNE : Hid (e1 ≠ 0) := Lib.hid (by simpa using q1)
    have HPE : Hid (paE ss = e1) := Lib.hid (HPE1.out HNE.out)
    go_upto_region 8 with fail
    have hx := (hSw.block _ HLT5.out).trans HN.out
    have n0 := (cell_of_row _ _ 0 _ _ (0, 0) hx).trans (show _ = some _ from rfl)
    have n1 := (cell_of_row _ _ 1 _ _ (0, 0) hx).trans (show _ = some _ from rfl)
    have n2 := (cell_of_row _ _ 2 _ _ (0, 0) hx).trans (show _ = some _ from rfl)
    have n3 := (cell_of_row _ _ 3 _ _ (0, 0) hx).trans (show _ = some _ from rfl)
    have n4 := (cell_of_row _ _ 4 _ _ (0, 0) hx).trans (show _ = some _ from rfl)
    have n5 := (cell_of_row _ _ 5 _ _ (0, 0) hx).trans (show _ = some _ from rfl)
    have z0 := frozen_of_row _ _ 0 _ _ hx
    have z1 := frozen_of_row _ _ 1 _ _ hx
    have z2 := frozen_of_row _ _ 2 _ _ hx
    have z3 := frozen_of_row _ _ 3 _ _ hx
    have z4 := frozen_of_row _ _ 4 _ _ hx
    have z5 := frozen_of_row _ _ 5 _ _ hx
    have hwb := HB0.out.trans (Below.mono hSw HB0.out.size)
    have HX2 : Hid (∀ W, W = T6 w1 w.heap.size (.string noB) (.int .i64 0) (.int .i64 0) (.int .i64 0) (.int .i64 0) (.slice none 0 0) → W.heap[w.heap.size]? = some (.cells #[.string noB, .int .i64 0, .int .i64 0, .int .i64 0, .int .i64 0, .slice none 0 0] fliT (0, 0)) ∧ Hid (But w1 W (fun k => k = w.heap.size)) ∧ Below w.heap.size w W) := Lib.hid (fun W h => by rw [h]; exact ⟨T6.heap hx _ _ _ _ _ _, Lib.hid (T6.but _ _ _ _ _ _ _ _), hwb.trans ((T6.but _ _ _ _ _ _ _ _).below hwb.size (fun k hk he => by have : k = w.heap.size := he; omega))⟩)
    clear hx hwb
    go_wp2
    obtain ⟨hxx, HBT, hbb⟩ := HX2.out _ rfl
    unfold T6 at hxx hbb HBT
    generalize hWW : (((((w1.setCell ⟨w.heap.size, 0, none⟩ (.string noB)).setCell ⟨w.heap.size, 1, none⟩ (.int .i64 0)).setCell ⟨w.heap.size, 2, none⟩ (.int .i64 0)).setCell ⟨w.heap.size, 3, none⟩ (.int .i64 0)).setCell ⟨w.heap.size, 4, none⟩ (.int .i64 0)).setCell ⟨w.heap.size, 5, none⟩ (.slice none 0 0) = WW at *
    clear hWW n0 n1 n2 n3 n4 n5 z0 z1 z2 z3 z4 z5
    have c0 := (cell_of_row WW _ 0 _ _ (0, 0) hxx).trans (show _ = some _ from rfl)
    have c1 := (cell_of_row WW _ 1 _ _ (0, 0) hxx).trans (show _ = some _ from rfl)
    have c2 := (cell_of_row WW _ 2 _ _ (0, 0) hxx).trans (show _ = some _ from rfl)
    have c3 := (cell_of_row WW _ 3 _ _ (0, 0) hxx).trans (show _ = some _ from rfl)
    have c4 := (cell_of_row WW _ 4 _ _ (0, 0) hxx).trans (show _ = some _ from rfl)
    have c5 := (cell_of_row WW _ 5 _ _ (0, 0) hxx).trans (show _ = some _ from rfl)
    refine bodyPost_ret (v := .tuple #[encFl fvZ, .int .i64 e1]) ?_ rfl ⟨fvZ, by rw [HPE.out], ⟨fun h => absurd (HPE.out.symm.trans h) HNE.out, fun _ => rfl⟩, ⟨none, 0, rfl, .inl rfl⟩, hbb⟩
    simp [results, Tryz.results14, go_sem, c0, c1, c2, c3, c4, c5, fvZ]
  | false =>
  obtain rfl : e1 = 0 := by simpa using q1
  go_upto_region 10 with (go_at_call 51; refine (KP1.out _).mono ?_; rintro e w3 ⟨rfl, hS3⟩)
  have hbD := bel_alloc w3 (.cells #[.int .i64 pf, .int .i64 pt, .int .i64 pd] 23)
  have hS3a := Below.trans hS3 (Below.mono hbD hS3.size)
  have hSw : SW w5 (w3.alloc (.cells #[.int .i64 pf, .int .i64 pt, .int .i64 pd] 23)) := Below.trans hS1 (Below.mono hS3a hS1.size)
  have p0 := (cells_new w3 #[.int .i64 pf, .int .i64 pt, .int .i64 pd] 23 0).trans (show _ = some (Value.int .i64 pf) from rfl)
  have p1 := (cells_new w3 #[.int .i64 pf, .int .i64 pt, .int .i64 pd] 23 1).trans (show _ = some (Value.int .i64 pt) from rfl)
  have p2 := (cells_new w3 #[.int .i64 pf, .int .i64 pt, .int .i64 pd] 23 2).trans (show _ = some (Value.int .i64 pd) from rfl)
  generalize hw3 : w3.alloc (.cells #[.int .i64 pf, .int .i64 pt, .int .i64 pd] 23) = w4 at *
  clear hw3 hbD
  cases q2 : (e2 != 0) with
  | true =>
    have HNE : Hid (e2 ≠ 0) := Lib.hid (by simpa using q2)
    have HPE : Hid (paE ss = e2) := Lib.hid (HPE2.out (by first | trivial | rfl) HNE.out)
    go_upto_region 11 with fail
    have hx := (hSw.block _ HLT5.out).trans HN.out
    have n0 := (cell_of_row _ _ 0 _ _ (0, 0) hx).trans (show _ = some _ from rfl)
    have n1 := (cell_of_row _ _ 1 _ _ (0, 0) hx).trans (show _ = some _ from rfl)
    have n2 := (cell_of_row _ _ 2 _ _ (0, 0) hx).trans (show _ = some _ from rfl)
    have n3 := (cell_of_row _ _ 3 _ _ (0, 0) hx).trans (show _ = some _ from rfl)
    have n4 := (cell_of_row _ _ 4 _ _ (0, 0) hx).trans (show _ = some _ from rfl)
    have n5 := (cell_of_row _ _ 5 _ _ (0, 0) hx).trans (show _ = some _ from rfl)
    have z0 := frozen_of_row _ _ 0 _ _ hx
    have z1 := frozen_of_row _ _ 1 _ _ hx
    have z2 := frozen_of_row _ _ 2 _ _ hx
    have z3 := frozen_of_row _ _ 3 _ _ hx
    have z4 := frozen_of_row _ _ 4 _ _ hx
    have z5 := frozen_of_row _ _ 5 _ _ hx
    have hwb := HB0.out.trans (Below.mono hSw HB0.out.size)
    have HX2 : Hid (∀ W, W = T6 w4 w.heap.size (.string noB) (.int .i64 0) (.int .i64 0) (.int .i64 0) (.int .i64 0) (.slice none 0 0) → W.heap[w.heap.size]? = some (.cells #[.string noB, .int .i64 0, .int .i64 0, .int .i64 0, .int .i64 0, .slice none 0 0] fliT (0, 0)) ∧ Hid (But w4 W (fun k => k = w.heap.size)) ∧ Below w.heap.size w W) := Lib.hid (fun W h => by rw [h]; exact ⟨T6.heap hx _ _ _ _ _ _, Lib.hid (T6.but _ _ _ _ _ _ _ _), hwb.trans ((T6.but _ _ _ _ _ _ _ _).below hwb.size (fun k hk he => by have : k = w.heap.size := he; omega))⟩)
    clear hx hwb
    go_wp2
    obtain ⟨hxx, HBT, hbb⟩ := HX2.out _ rfl
    unfold T6 at hxx hbb HBT
    generalize hWW : (((((w4.setCell ⟨w.heap.size, 0, none⟩ (.string noB)).setCell ⟨w.heap.size, 1, none⟩ (.int .i64 0)).setCell ⟨w.heap.size, 2, none⟩ (.int .i64 0)).setCell ⟨w.heap.size, 3, none⟩ (.int .i64 0)).setCell ⟨w.heap.size, 4, none⟩ (.int .i64 0)).setCell ⟨w.heap.size, 5, none⟩ (.slice none 0 0) = WW at *
    clear hWW n0 n1 n2 n3 n4 n5 z0 z1 z2 z3 z4 z5
    have c0 := (cell_of_row WW _ 0 _ _ (0, 0) hxx).trans (show _ = some _ from rfl)
    have c1 := (cell_of_row WW _ 1 _ _ (0, 0) hxx).trans (show _ = some _ from rfl)
    have c2 := (cell_of_row WW _ 2 _ _ (0, 0) hxx).trans (show _ = some _ from rfl)
    have c3 := (cell_of_row WW _ 3 _ _ (0, 0) hxx).trans (show _ = some _ from rfl)
    have c4 := (cell_of_row WW _ 4 _ _ (0, 0) hxx).trans (show _ = some _ from rfl)
    have c5 := (cell_of_row WW _ 5 _ _ (0, 0) hxx).trans (show _ = some _ from rfl)
    refine bodyPost_ret (v := .tuple #[encFl fvZ, .int .i64 e2]) ?_ rfl ⟨fvZ, by rw [HPE.out], ⟨fun h => absurd (HPE.out.symm.trans h) HNE.out, fun _ => rfl⟩, ⟨none, 0, rfl, .inl rfl⟩, hbb⟩
    simp [results, Tryz.results14, go_sem, c0, c1, c2, c3, c4, c5, fvZ]
  | false =>
  obtain rfl : e2 = 0 := by simpa using q2
  have F0 := bel_get p0
  have F1 := bel_get p1
  have F2 := bel_get p2
  have D0 := bel_get (bel_cell hS3a d0)
  have HS3a := Lib.hid hS3a
  have HSW4 := Lib.hid hSw
  clear p0 p1 p2 d0 d1 d2 q1 q2 hS3
  go_upto_region 12 with fail
  have hS : (SW w4) _ := SW.drew _
  refine wp_region_held_drew (S := SW w4) (by kernel_rfl) hS (fun _ => ?_)
  refine wpAnyH_take (i := 0) (v := ?vR0) rfl (by kernel_rfl) (by kernel_rfl) (by kernel_rfl) (fun _ _ _ h => h) (Or.inl ⟨by rfl, ?hyR0⟩) hS ?restR0
  case hyR0 =>
    intro w hSw
    first | (go_simp; done) | (go_simp; with_reducible rfl)
  try simp only [Act.put, List.setIfInBounds_toArray, List.set_cons_zero, List.set_cons_succ]
  refine wpAnyH_take (i := 1) (v := ?vR1) rfl (by kernel_rfl) (by kernel_rfl) (by kernel_rfl) (fun _ _ _ h => h) (Or.inl ⟨by rfl, ?hyR1⟩) hS ?restR1
  case hyR1 =>
    intro w hSw
    first | (go_simp; done) | (go_simp; with_reducible rfl)
  try simp only [Act.put, List.setIfInBounds_toArray, List.set_cons_zero, List.set_cons_succ]
  refine wpAnyH_take (i := 2) (v := ?vR2) rfl (by kernel_rfl) (by kernel_rfl) (by kernel_rfl) (fun _ _ _ h => h) (Or.inl ⟨by rfl, ?hyR2⟩) hS ?restR2
  case hyR2 =>
    intro w hSw
    have k0 := D0 w hSw
    first | (go_simp; done) | (go_simp; with_reducible rfl)
  try simp only [Act.put, List.setIfInBounds_toArray, List.set_cons_zero, List.set_cons_succ]
  refine wpAnyH_take (i := 3) (v := ?vR3) rfl (by kernel_rfl) (by kernel_rfl) (by kernel_rfl) (fun _ _ _ h => h) (Or.inl ⟨by rfl, ?hyR3⟩) hS ?restR3
  case hyR3 =>
    intro w hSw
    first | (go_simp; done) | (go_simp; with_reducible rfl)
  try simp only [Act.put, List.setIfInBounds_toArray, List.set_cons_zero, List.set_cons_succ]
  refine wpAnyH_take (i := 4) (v := ?vR4) rfl (by kernel_rfl) (by kernel_rfl) (by kernel_rfl) (fun _ _ _ h => h) (Or.inl ⟨by rfl, ?hyR4⟩) hS ?restR4
  case hyR4 =>
    intro w hSw
    have k0 := F0 w hSw; have k1 := F1 w hSw; have k2 := F2 w hSw
    first | (go_simp; done) | (go_simp; with_reducible rfl)
  try simp only [Act.put, List.setIfInBounds_toArray, List.set_cons_zero, List.set_cons_succ]
  refine wpAnyH_take (i := 5) (v := ?vR5) rfl (by kernel_rfl) (by kernel_rfl) (by kernel_rfl) (fun _ _ _ h => h) (Or.inl ⟨by rfl, ?hyR5⟩) hS ?restR5
  case hyR5 =>
    intro w hSw
    first | (go_simp; done) | (go_simp; with_reducible rfl)
  try simp only [Act.put, List.setIfInBounds_toArray, List.set_cons_zero, List.set_cons_succ]
  refine wpAnyH_ready (rs := [6]) (by kernel_rfl) (by simp) ?_
  refine AllReadyH.cons rfl (fun K hK => ?_) AllReadyH.nil
  go_simp
  have hSp := hS
  have hN7 := heap_alloc_new w4.drew (.cells #[.string noB, .int .i64 0, .int .i64 0, .int .i64 0, .int .i64 0, .slice none 0 0] fliT)
  have hS := Below.trans hSp (Below.mono (bel_alloc _ (.cells #[.string noB, .int .i64 0, .int .i64 0, .int .i64 0, .int .i64 0, .slice none 0 0] fliT)) hSp.size)
  refine hK.out _ _ hS (fun _ => ?_)
  clear hK K
  refine wpAnyH_ready (rs := [7]) (by kernel_rfl) (by simp) ?_
  refine AllReadyH.cons rfl (fun K hK => ?_) AllReadyH.nil
  go_simp
  have hS : SW w4 (w4.drew.alloc (.cells #[.string s0, .int .i64 v1, .int .i64 pf, .int .i64 pt, .int .i64 pd, .slice none 0 0] fliT)) := Below.trans (SW.drew _) (Below.mono (bel_alloc w4.drew _) (Nat.le_refl _))
  refine hK.out _ _ hS (fun _ => ?_)
  clear hK K
  refine wpAnyH_done (by kernel_rfl) ?_ _
  try simp only [List.getElem_toArray, List.getElem_cons_succ, List.getElem_cons_zero, List.set_cons_zero, List.set_cons_succ]
  have hS7 : SW w4 ((w4.alloc (.cells #[.string s0, .int .i64 v1, .int .i64 pf, .int .i64 pt, .int .i64 pd, .slice none 0 0] 26)).drew) := Below.drew (bel_alloc w4 _)
  have hBF : BoxF ((w4.alloc (.cells #[.string s0, .int .i64 v1, .int .i64 pf, .int .i64 pt, .int .i64 pd, .slice none 0 0] 26)).drew) w4.heap.size s0 v1 pf pt pd (.slice none 0 0) := heap_alloc_new w4 (.cells #[.string s0, .int .i64 v1, .int .i64 pf, .int .i64 pt, .int .i64 pd, .slice none 0 0] fliT)
  have hsz7 : w4.heap.size + 1 ≤ ((w4.alloc (.cells #[.string s0, .int .i64 v1, .int .i64 pf, .int .i64 pt, .int .i64 pd, .slice none 0 0] 26)).drew).heap.size := by show _ ≤ (w4.alloc _).heap.size; rw [World.size_alloc]; omega
  generalize hw7 : (w4.alloc (.cells #[.string s0, .int .i64 v1, .int .i64 pf, .int .i64 pt, .int .i64 pd, .slice none 0 0] 26)).drew = w7 at *
  clear hw7 F0 F1 F2 D0
  have HER : Hid (∀ k, lgEr ss k = if nuE (wd ss (5 + 5 * k)) = 0 then nuE (wd ss (6 + 5 * k)) else nuE (wd ss (5 + 5 * k))) := Lib.hid (fun k => rfl)
  have HS7 := Lib.hid hS7
  go_wp2
  go_loopw [9] (fun vi wr => ∃ (i k : Nat) (v : Value), i ≤ n ∧ vi = .int .i64 (i : Int) ∧ Hid (i = 3 + 5 * k ∧ ∀ j, j < k → lgEr ss j = 0) ∧ Hid (BoxF wr w4.heap.size s0 v1 pf pt pd v ∧ ROwn legT 5 encLg (w4.heap.size + 1) wr v (lgsR ss k) ∧ SW w4 wr)) (fun vi _ => n - (intOf vi).toNat)
  case atStart => exact ⟨3, 0, .slice none 0 0, by omega, rfl, Lib.hid ⟨rfl, fun j h => by omega⟩, Lib.hid ⟨hBF, ROwn.nil hsz7, HS7.out⟩⟩
  case round =>
    obtain ⟨i, k, v, hi, rfl, HK, HH⟩ := hrel
    clear hBF hsz7 hS7
    have hSr : SW w4 wr := HH.out.2.2
    have hSw : SW w5 wr := Below.trans HSW4.out (Below.mono hSr HSW4.out.size)
    by_cases hlt : i < n
    · have hk : k < m := by have := HK.out.1; have := HN5.out; omega
      have h5 : i + 5 ≤ n := by have := HK.out.1; have := HN5.out; omega
      have hib : i ≤ 1001 := by omega
      have U0 := bel_get (bel_cell HS3a.out (HC1.out i (by omega)))
      have U1 := bel_get (bel_cell HS3a.out (HC1.out (i + 1) (by omega)))
      have U4 := bel_get (bel_cell HS3a.out (HC1.out (i + 4) (by omega)))
      have u2 := bel_cell hSr (bel_cell HS3a.out (HC1.out (i + 2) (by omega)))
      have u3 := bel_cell hSr (bel_cell HS3a.out (HC1.out (i + 3) (by omega)))
      have HAT : Hid (lgAt ss k = ⟨wd ss i, wd ss (i + 1), nuV (wd ss (i + 2)), nuV (wd ss (i + 3)), wd ss (i + 4)⟩) := Lib.hid (by rw [HK.out.1, show 3 + 5 * k + 1 = 4 + 5 * k by omega, show 3 + 5 * k + 2 = 5 + 5 * k by omega, show 3 + 5 * k + 3 = 6 + 5 * k by omega, show 3 + 5 * k + 4 = 7 + 5 * k by omega]; rfl)
      have HEK : Hid (lgEr ss k = if nuE (wd ss (i + 2)) = 0 then nuE (wd ss (i + 3)) else nuE (wd ss (i + 2))) := Lib.hid (by rw [HK.out.1, show 3 + 5 * k + 2 = 5 + 5 * k by omega, show 3 + 5 * k + 3 = 6 + 5 * k by omega]; rfl)
      have HFST : Hid (lgEr ss k ≠ 0 → erL ss m 0 = lgEr ss k) := Lib.hid (fun h => Per.erL_first ss m 0 k (Nat.zero_le _) (by omega) (fun j _ hj => HK.out.2 j hj) h)
      have KD := Lib.hid (KN0.out (i + 2))
      have KE := Lib.hid (KN0.out (i + 3))
      have a0 : (i : Int) < (n : Int) := by omega
      have a1 : (i : Int) + 1 < (n : Int) := by omega
      have a2 : (i : Int) + 2 < (n : Int) := by omega
      have a3 : (i : Int) + 3 < (n : Int) := by omega
      have a4 : (i : Int) + 4 < (n : Int) := by omega
      have z1 : (0 : Int) ≤ (i : Int) + 1 := by omega
      have z2 : (0 : Int) ≤ (i : Int) + 2 := by omega
      have z3 : (0 : Int) ≤ (i : Int) + 3 := by omega
      have z4 : (0 : Int) ≤ (i : Int) + 4 := by omega
      have a5 : i + 1 < n := by omega
      have a6 : i + 4 < n := by omega
      have ww1 : IntKind.i64.wrap ((i : Int) + 1) = (i : Int) + 1 := IntWalk.i64_in _ (by omega)
      have ww4 : IntKind.i64.wrap ((i : Int) + 4) = (i : Int) + 4 := IntWalk.i64_in _ (by omega)
      have wt1 : ((i : Int) + 1).toNat = i + 1 := by omega
      have wt4 : ((i : Int) + 4).toNat = i + 4 := by omega
      generalize wd ss i = tA at *
      generalize wd ss (i + 1) = tB at *
      generalize wd ss (i + 2) = tD at *
      generalize wd ss (i + 3) = tE at *
      generalize wd ss (i + 4) = tQ at *
      cases q1 : (nuE tD != 0) with
      | true =>
        have HNV : Hid (nuE tD ≠ 0) := Lib.hid (by simpa using q1)
        have HLV : Hid (lgEr ss k = nuE tD) := Lib.hid (by rw [HEK.out, if_neg HNV.out])
        have HPV : Hid (paE ss = nuE tD) := Lib.hid (by have h1 := HFST.out (by rw [HLV.out]; exact HNV.out); rw [HLV.out] at h1; rw [← h1]; exact HPE3.out (by first | trivial | rfl) (by first | trivial | rfl) (by rw [h1]; exact HNV.out))
        generalize nuE tD = nd at *
        have HNE : Hid (nd ≠ 0) := Lib.hid HNV.out
        have HPE : Hid (paE ss = nd) := Lib.hid HPV.out
        go_upto_region 18 with (go_at_call 50; with_reducible refine (KD.out _).mono ?_; rintro e w9 ⟨rfl, rfl⟩)
        have hx := (hSw.block _ HLT5.out).trans HN.out
        have n0 := (cell_of_row _ _ 0 _ _ (0, 0) hx).trans (show _ = some _ from rfl)
        have n1 := (cell_of_row _ _ 1 _ _ (0, 0) hx).trans (show _ = some _ from rfl)
        have n2 := (cell_of_row _ _ 2 _ _ (0, 0) hx).trans (show _ = some _ from rfl)
        have n3 := (cell_of_row _ _ 3 _ _ (0, 0) hx).trans (show _ = some _ from rfl)
        have n4 := (cell_of_row _ _ 4 _ _ (0, 0) hx).trans (show _ = some _ from rfl)
        have n5 := (cell_of_row _ _ 5 _ _ (0, 0) hx).trans (show _ = some _ from rfl)
        have z0 := frozen_of_row _ _ 0 _ _ hx
        have z1 := frozen_of_row _ _ 1 _ _ hx
        have z2 := frozen_of_row _ _ 2 _ _ hx
        have z3 := frozen_of_row _ _ 3 _ _ hx
        have z4 := frozen_of_row _ _ 4 _ _ hx
        have z5 := frozen_of_row _ _ 5 _ _ hx
        have hwb := HB0.out.trans (Below.mono hSw HB0.out.size)
        have HX2 : Hid (∀ W, W = T6 wr w.heap.size (.string noB) (.int .i64 0) (.int .i64 0) (.int .i64 0) (.int .i64 0) (.slice none 0 0) → W.heap[w.heap.size]? = some (.cells #[.string noB, .int .i64 0, .int .i64 0, .int .i64 0, .int .i64 0, .slice none 0 0] fliT (0, 0)) ∧ Hid (But wr W (fun k => k = w.heap.size)) ∧ Below w.heap.size w W) := Lib.hid (fun W h => by rw [h]; exact ⟨T6.heap hx _ _ _ _ _ _, Lib.hid (T6.but _ _ _ _ _ _ _ _), hwb.trans ((T6.but _ _ _ _ _ _ _ _).below hwb.size (fun k hk he => by have : k = w.heap.size := he; omega))⟩)
        clear hx hwb
        go_wp2
        obtain ⟨hxx, HBT, hbb⟩ := HX2.out _ rfl
        unfold T6 at hxx hbb HBT
        generalize hWW : (((((wr.setCell ⟨w.heap.size, 0, none⟩ (.string noB)).setCell ⟨w.heap.size, 1, none⟩ (.int .i64 0)).setCell ⟨w.heap.size, 2, none⟩ (.int .i64 0)).setCell ⟨w.heap.size, 3, none⟩ (.int .i64 0)).setCell ⟨w.heap.size, 4, none⟩ (.int .i64 0)).setCell ⟨w.heap.size, 5, none⟩ (.slice none 0 0) = WW at *
        clear hWW n0 n1 n2 n3 n4 n5 z0 z1 z2 z3 z4 z5
        have c0 := (cell_of_row WW _ 0 _ _ (0, 0) hxx).trans (show _ = some _ from rfl)
        have c1 := (cell_of_row WW _ 1 _ _ (0, 0) hxx).trans (show _ = some _ from rfl)
        have c2 := (cell_of_row WW _ 2 _ _ (0, 0) hxx).trans (show _ = some _ from rfl)
        have c3 := (cell_of_row WW _ 3 _ _ (0, 0) hxx).trans (show _ = some _ from rfl)
        have c4 := (cell_of_row WW _ 4 _ _ (0, 0) hxx).trans (show _ = some _ from rfl)
        have c5 := (cell_of_row WW _ 5 _ _ (0, 0) hxx).trans (show _ = some _ from rfl)
        refine bodyPost_ret (v := .tuple #[encFl fvZ, .int .i64 nd]) ?_ rfl ⟨fvZ, by rw [HPE.out], ⟨fun h => absurd (HPE.out.symm.trans h) HNE.out, fun _ => rfl⟩, ⟨none, 0, rfl, .inl rfl⟩, hbb⟩
        simp [results, Tryz.results14, go_sem, c0, c1, c2, c3, c4, c5, fvZ]
      | false =>
      have zD : nuE tD = 0 := by simpa using q1
      cases q2 : (nuE tE != 0) with
      | true =>
        have HNV : Hid (nuE tE ≠ 0) := Lib.hid (by simpa using q2)
        have HLV : Hid (lgEr ss k = nuE tE) := Lib.hid (by rw [HEK.out, if_pos zD])
        have HPV : Hid (paE ss = nuE tE) := Lib.hid (by have h1 := HFST.out (by rw [HLV.out]; exact HNV.out); rw [HLV.out] at h1; rw [← h1]; exact HPE3.out (by first | trivial | rfl) (by first | trivial | rfl) (by rw [h1]; exact HNV.out))
        rw [zD] at KD
        clear zD q1 HEK
        generalize nuE tE = nd at *
        have HNE : Hid (nd ≠ 0) := Lib.hid HNV.out
        have HPE : Hid (paE ss = nd) := Lib.hid HPV.out
        go_upto_region 21 with (first
          | (go_at_call 50; with_reducible refine (KE.out _).mono ?_; rintro e w9 ⟨rfl, rfl⟩)
          | (go_at_call 50; with_reducible refine (KD.out _).mono ?_; rintro e w9 ⟨rfl, rfl⟩))
        have hx := (hSw.block _ HLT5.out).trans HN.out
        have n0 := (cell_of_row _ _ 0 _ _ (0, 0) hx).trans (show _ = some _ from rfl)
        have n1 := (cell_of_row _ _ 1 _ _ (0, 0) hx).trans (show _ = some _ from rfl)
        have n2 := (cell_of_row _ _ 2 _ _ (0, 0) hx).trans (show _ = some _ from rfl)
        have n3 := (cell_of_row _ _ 3 _ _ (0, 0) hx).trans (show _ = some _ from rfl)
        have n4 := (cell_of_row _ _ 4 _ _ (0, 0) hx).trans (show _ = some _ from rfl)
        have n5 := (cell_of_row _ _ 5 _ _ (0, 0) hx).trans (show _ = some _ from rfl)
        have z0 := frozen_of_row _ _ 0 _ _ hx
        have z1 := frozen_of_row _ _ 1 _ _ hx
        have z2 := frozen_of_row _ _ 2 _ _ hx
        have z3 := frozen_of_row _ _ 3 _ _ hx
        have z4 := frozen_of_row _ _ 4 _ _ hx
        have z5 := frozen_of_row _ _ 5 _ _ hx
        have hwb := HB0.out.trans (Below.mono hSw HB0.out.size)
        have HX2 : Hid (∀ W, W = T6 wr w.heap.size (.string noB) (.int .i64 0) (.int .i64 0) (.int .i64 0) (.int .i64 0) (.slice none 0 0) → W.heap[w.heap.size]? = some (.cells #[.string noB, .int .i64 0, .int .i64 0, .int .i64 0, .int .i64 0, .slice none 0 0] fliT (0, 0)) ∧ Hid (But wr W (fun k => k = w.heap.size)) ∧ Below w.heap.size w W) := Lib.hid (fun W h => by rw [h]; exact ⟨T6.heap hx _ _ _ _ _ _, Lib.hid (T6.but _ _ _ _ _ _ _ _), hwb.trans ((T6.but _ _ _ _ _ _ _ _).below hwb.size (fun k hk he => by have : k = w.heap.size := he; omega))⟩)
        clear hx hwb
        go_wp2
        obtain ⟨hxx, HBT, hbb⟩ := HX2.out _ rfl
        unfold T6 at hxx hbb HBT
        generalize hWW : (((((wr.setCell ⟨w.heap.size, 0, none⟩ (.string noB)).setCell ⟨w.heap.size, 1, none⟩ (.int .i64 0)).setCell ⟨w.heap.size, 2, none⟩ (.int .i64 0)).setCell ⟨w.heap.size, 3, none⟩ (.int .i64 0)).setCell ⟨w.heap.size, 4, none⟩ (.int .i64 0)).setCell ⟨w.heap.size, 5, none⟩ (.slice none 0 0) = WW at *
        clear hWW n0 n1 n2 n3 n4 n5 z0 z1 z2 z3 z4 z5
        have c0 := (cell_of_row WW _ 0 _ _ (0, 0) hxx).trans (show _ = some _ from rfl)
        have c1 := (cell_of_row WW _ 1 _ _ (0, 0) hxx).trans (show _ = some _ from rfl)
        have c2 := (cell_of_row WW _ 2 _ _ (0, 0) hxx).trans (show _ = some _ from rfl)
        have c3 := (cell_of_row WW _ 3 _ _ (0, 0) hxx).trans (show _ = some _ from rfl)
        have c4 := (cell_of_row WW _ 4 _ _ (0, 0) hxx).trans (show _ = some _ from rfl)
        have c5 := (cell_of_row WW _ 5 _ _ (0, 0) hxx).trans (show _ = some _ from rfl)
        refine bodyPost_ret (v := .tuple #[encFl fvZ, .int .i64 nd]) ?_ rfl ⟨fvZ, by rw [HPE.out], ⟨fun h => absurd (HPE.out.symm.trans h) HNE.out, fun _ => rfl⟩, ⟨none, 0, rfl, .inl rfl⟩, hbb⟩
        simp [results, Tryz.results14, go_sem, c0, c1, c2, c3, c4, c5, fvZ]
      | false =>
      have zE : nuE tE = 0 := by simpa using q2
      have HKN : Hid (i + 5 = 3 + 5 * (k + 1) ∧ ∀ j, j < k + 1 → lgEr ss j = 0) := Lib.hid ⟨by have := HK.out.1; omega, fun j hj => by
        by_cases e : j = k
        · rw [e, HEK.out, if_pos zD]; exact zE
        · exact HK.out.2 j (by omega)⟩
      rw [zD] at KD
      rw [zE] at KE
      clear zD zE q1 q2 HEK HFST
      have hO0 := HH.out.2.1
      obtain ⟨Av, cv, rfl⟩ := own_form hO0
      have HBF : Hid (BoxF wr w4.heap.size s0 v1 pf pt pd (.slice Av (lgsR ss k).length cv)) := Lib.hid HH.out.1
      have hO4 : ROwn legT 5 encLg (w4.heap.size + 1) wr.drew (.slice Av (lgsR ss k).length cv) (lgsR ss k) := hO0.more (Below.refl _ _).drew
      have HLk : Hid ((lgsR ss k).length ≤ 100000000) := Lib.hid (by simp [lgsR]; omega)
      clear hO0 HH
      go_upto_region 22 with (first
        | (go_at_call 50; with_reducible refine (KE.out _).mono ?_; rintro e w9 ⟨rfl, rfl⟩)
        | (go_at_call 50; with_reducible refine (KD.out _).mono ?_; rintro e w9 ⟨rfl, rfl⟩))
      clear u2 u3 KD KE a2 a3 z2 z3
      have hS : (SW w4) _ := Below.drew hSr
      refine wp_region_held_drew (S := SW w4) (by kernel_rfl) hS (fun _ => ?_)
      refine wpAnyH_take (i := 0) (v := ?vQ0) rfl (by kernel_rfl) (by kernel_rfl) (by kernel_rfl) (fun _ _ _ h => h) (Or.inl ⟨by rfl, ?hyQ0⟩) hS ?restQ0
      case hyQ0 =>
        intro w hSw
        first | (go_simp; done) | (go_simp; with_reducible rfl)
      try simp only [Act.put, List.setIfInBounds_toArray, List.set_cons_zero, List.set_cons_succ]
      refine wpAnyH_take (i := 2) (v := ?vQ2) rfl (by kernel_rfl) (by kernel_rfl) (by kernel_rfl) (fun _ _ _ h => h) (Or.inl ⟨by rfl, ?hyQ2⟩) hS ?restQ2
      case hyQ2 =>
        intro w hSw
        first | (go_simp; done) | (go_simp; with_reducible rfl)
      try simp only [Act.put, List.setIfInBounds_toArray, List.set_cons_zero, List.set_cons_succ]
      refine wpAnyH_take (i := 3) (v := ?vQ3) rfl (by kernel_rfl) (by kernel_rfl) (by kernel_rfl) (fun _ _ _ h => h) (Or.inl ⟨by rfl, ?hyQ3⟩) hS ?restQ3
      case hyQ3 =>
        intro w hSw
        first | (go_simp; done) | (go_simp; with_reducible rfl)
      try simp only [Act.put, List.setIfInBounds_toArray, List.set_cons_zero, List.set_cons_succ]
      refine wpAnyH_take (i := 4) (v := ?vQ4) rfl (by kernel_rfl) (by kernel_rfl) (by kernel_rfl) (fun _ _ _ h => h) (Or.inl ⟨by rfl, ?hyQ4⟩) hS ?restQ4
      case hyQ4 =>
        intro w hSw
        first | (go_simp; done) | (go_simp; with_reducible rfl)
      try simp only [Act.put, List.setIfInBounds_toArray, List.set_cons_zero, List.set_cons_succ]
      refine wpAnyH_take (i := 5) (v := ?vQ5) rfl (by kernel_rfl) (by kernel_rfl) (by kernel_rfl) (fun _ _ _ h => h) (Or.inl ⟨by rfl, ?hyQ5⟩) hS ?restQ5
      case hyQ5 =>
        intro w hSw
        have k0 := U0 w hSw
        first | (go_simp; done) | (go_simp; with_reducible rfl)
      try simp only [Act.put, List.setIfInBounds_toArray, List.set_cons_zero, List.set_cons_succ]
      refine wpAnyH_take (i := 6) (v := ?vQ6) rfl (by kernel_rfl) (by kernel_rfl) (by kernel_rfl) (fun _ _ _ h => h) (Or.inl ⟨by rfl, ?hyQ6⟩) hS ?restQ6
      case hyQ6 =>
        intro w hSw
        first | (go_simp; done) | (go_simp; with_reducible rfl)
      try simp only [Act.put, List.setIfInBounds_toArray, List.set_cons_zero, List.set_cons_succ]
      refine wpAnyH_take (i := 7) (v := ?vQ7) rfl (by kernel_rfl) (by kernel_rfl) (by kernel_rfl) (fun _ _ _ h => h) (Or.inl ⟨by rfl, ?hyQ7⟩) hS ?restQ7
      case hyQ7 =>
        intro w hSw
        first | (go_simp; done) | (go_simp; with_reducible rfl)
      try simp only [Act.put, List.setIfInBounds_toArray, List.set_cons_zero, List.set_cons_succ]
      refine wpAnyH_take (i := 8) (v := ?vQ8) rfl (by kernel_rfl) (by kernel_rfl) (by kernel_rfl) (fun _ _ _ h => h) (Or.inl ⟨by rfl, ?hyQ8⟩) hS ?restQ8
      case hyQ8 =>
        intro w hSw
        first | (go_simp; done) | (go_simp; with_reducible rfl)
      try simp only [Act.put, List.setIfInBounds_toArray, List.set_cons_zero, List.set_cons_succ]
      refine wpAnyH_take (i := 9) (v := ?vQ9) rfl (by kernel_rfl) (by kernel_rfl) (by kernel_rfl) (fun _ _ _ h => h) (Or.inl ⟨by rfl, ?hyQ9⟩) hS ?restQ9
      case hyQ9 =>
        intro w hSw
        first | (go_simp; done) | (go_simp; with_reducible rfl)
      try simp only [Act.put, List.setIfInBounds_toArray, List.set_cons_zero, List.set_cons_succ]
      refine wpAnyH_take (i := 10) (v := ?vQ10) rfl (by kernel_rfl) (by kernel_rfl) (by kernel_rfl) (fun _ _ _ h => h) (Or.inl ⟨by rfl, ?hyQ10⟩) hS ?restQ10
      case hyQ10 =>
        intro w hSw
        have k0 := U1 w hSw
        first | (go_simp; done) | (go_simp; with_reducible rfl)
      try simp only [Act.put, List.setIfInBounds_toArray, List.set_cons_zero, List.set_cons_succ]
      refine wpAnyH_take (i := 11) (v := ?vQ11) rfl (by kernel_rfl) (by kernel_rfl) (by kernel_rfl) (fun _ _ _ h => h) (Or.inl ⟨by rfl, ?hyQ11⟩) hS ?restQ11
      case hyQ11 =>
        intro w hSw
        first | (go_simp; done) | (go_simp; with_reducible rfl)
      try simp only [Act.put, List.setIfInBounds_toArray, List.set_cons_zero, List.set_cons_succ]
      refine wpAnyH_take (i := 12) (v := ?vQ12) rfl (by kernel_rfl) (by kernel_rfl) (by kernel_rfl) (fun _ _ _ h => h) (Or.inl ⟨by rfl, ?hyQ12⟩) hS ?restQ12
      case hyQ12 =>
        intro w hSw
        first | (go_simp; done) | (go_simp; with_reducible rfl)
      try simp only [Act.put, List.setIfInBounds_toArray, List.set_cons_zero, List.set_cons_succ]
      refine wpAnyH_take (i := 13) (v := ?vQ13) rfl (by kernel_rfl) (by kernel_rfl) (by kernel_rfl) (fun _ _ _ h => h) (Or.inl ⟨by rfl, ?hyQ13⟩) hS ?restQ13
      case hyQ13 =>
        intro w hSw
        first | (go_simp; done) | (go_simp; with_reducible rfl)
      try simp only [Act.put, List.setIfInBounds_toArray, List.set_cons_zero, List.set_cons_succ]
      refine wpAnyH_take (i := 14) (v := ?vQ14) rfl (by kernel_rfl) (by kernel_rfl) (by kernel_rfl) (fun _ _ _ h => h) (Or.inl ⟨by rfl, ?hyQ14⟩) hS ?restQ14
      case hyQ14 =>
        intro w hSw
        first | (go_simp; done) | (go_simp; with_reducible rfl)
      try simp only [Act.put, List.setIfInBounds_toArray, List.set_cons_zero, List.set_cons_succ]
      refine wpAnyH_take (i := 15) (v := ?vQ15) rfl (by kernel_rfl) (by kernel_rfl) (by kernel_rfl) (fun _ _ _ h => h) (Or.inl ⟨by rfl, ?hyQ15⟩) hS ?restQ15
      case hyQ15 =>
        intro w hSw
        first | (go_simp; done) | (go_simp; with_reducible rfl)
      try simp only [Act.put, List.setIfInBounds_toArray, List.set_cons_zero, List.set_cons_succ]
      refine wpAnyH_take (i := 16) (v := ?vQ16) rfl (by kernel_rfl) (by kernel_rfl) (by kernel_rfl) (fun _ _ _ h => h) (Or.inl ⟨by rfl, ?hyQ16⟩) hS ?restQ16
      case hyQ16 =>
        intro w hSw
        first | (go_simp; done) | (go_simp; with_reducible rfl)
      try simp only [Act.put, List.setIfInBounds_toArray, List.set_cons_zero, List.set_cons_succ]
      refine wpAnyH_take (i := 17) (v := ?vQ17) rfl (by kernel_rfl) (by kernel_rfl) (by kernel_rfl) (fun _ _ _ h => h) (Or.inl ⟨by rfl, ?hyQ17⟩) hS ?restQ17
      case hyQ17 =>
        intro w hSw
        have k0 := U4 w hSw
        first | (go_simp; done) | (go_simp; with_reducible rfl)
      try simp only [Act.put, List.setIfInBounds_toArray, List.set_cons_zero, List.set_cons_succ]
      refine wpAnyH_take (i := 18) (v := ?vQ18) rfl (by kernel_rfl) (by kernel_rfl) (by kernel_rfl) (fun _ _ _ h => h) (Or.inl ⟨by rfl, ?hyQ18⟩) hS ?restQ18
      case hyQ18 =>
        intro w hSw
        first | (go_simp; done) | (go_simp; with_reducible rfl)
      try simp only [Act.put, List.setIfInBounds_toArray, List.set_cons_zero, List.set_cons_succ]
      refine wpAnyH_ready (rs := [1, 19]) (by kernel_rfl) (by simp) ?_
      refine AllReadyH.cons rfl (fun K hK => ?_) (AllReadyH.cons rfl (fun K hK => ?_) AllReadyH.nil)
      · have hc4 : World.cell? wr.drew ⟨w4.heap.size, 5, none⟩ = some (.slice Av (lgsR ss k).length cv) := HBF.out.c5
        go_simp
        refine hK.out _ _ hS (fun _ => ?_)
        clear hK K
        refine wpAnyH_ready (rs := [19]) (by kernel_rfl) (by simp) ?_
        refine AllReadyH.cons rfl (fun K hK => ?_) AllReadyH.nil
        go_simp
        have hSp := hS
        have hS : SW w4 (wr.drew.alloc (.cells #[.string tA, .string tB, .int .i64 (nuV tD), .int .i64 (nuV tE), .string tQ] legT)) := Below.alloc hSp (Nat.le_trans hSr.size (Nat.le_refl _)) _
        refine hK.out _ _ hS (fun _ => ?_)
        clear hK K
        refine wpAnyH_ready (rs := [20]) (by kernel_rfl) (by simp) ?_
        refine AllReadyH.cons rfl (fun K hK => ?_) AllReadyH.nil
        refine step_rapp rtLp rfl _ _ rfl hO4 rfl (bel_alloc wr.drew _) _ (⟨tA, tB, nuV tD, nuV tE, tQ⟩ : Lg) _ rfl (cs := #[.string tA, .string tB, .int .i64 (nuV tD), .int .i64 (nuV tE), .string tQ]) rfl (heap_alloc_new _ _) HLk.out ?_
        intro v8 w8 hO8 hC8
        go_simp
        have hS : SW w4 w8 := Below.trans (Below.drew hSr) (Below.mono (hC8.below hO4) (Nat.le_succ _))
        have hB8 : BoxF w8 w4.heap.size s0 v1 pf pt pd (.slice Av (lgsR ss k).length cv) := (hC8.but.block _ (lt_heap HBF.out) (fun e => by have := (hO4.low e).1; omega)).trans HBF.out
        obtain ⟨A8, k8, e8⟩ := own_form hO8
        rw [List.length_append, List.length_singleton] at e8
        subst e8
        have hc8 := hB8.c5
        have hf8 := frozen_of_row w8 w4.heap.size 5 _ _ hB8
        refine hK.out _ _ hS (fun _ => ?_)
        clear hK K
        refine wpAnyH_take (i := 21) (v := ?vQa21) rfl (by kernel_rfl) (by kernel_rfl) (by kernel_rfl) (fun _ _ _ h => h) (Or.inl ⟨by rfl, ?hyQa21⟩) hS ?restQa21
        case hyQa21 =>
          intro w hSw
          first | (go_simp; done) | (go_simp; with_reducible rfl)
        try simp only [Act.put, List.setIfInBounds_toArray, List.set_cons_zero, List.set_cons_succ]
        refine wpAnyH_ready (rs := [22]) (by kernel_rfl) (by simp) ?_
        refine AllReadyH.cons rfl (fun K hK => ?_) AllReadyH.nil
        go_simp
        have hSp := hS
        have hS : SW w4 (w8.setCell ⟨w4.heap.size, 5, none⟩ (.slice A8 ((lgsR ss k).length + 1) k8)) := Below.setCell hSp (p := ⟨w4.heap.size, 5, none⟩) (Nat.le_refl _) _
        refine hK.out _ _ hS (fun _ => ?_)
        clear hK K
        refine wpAnyH_done (by kernel_rfl) ?_ _
        try simp only [List.getElem_toArray, List.getElem_cons_succ, List.getElem_cons_zero, List.set_cons_zero, List.set_cons_succ]
        have HY : Hid (BoxF (w8.setCell ⟨w4.heap.size, 5, none⟩ (.slice A8 ((lgsR ss k).length + 1) k8)) w4.heap.size s0 v1 pf pt pd (.slice A8 ((lgsR ss k).length + 1) k8) ∧ ROwn legT 5 encLg (w4.heap.size + 1) (w8.setCell ⟨w4.heap.size, 5, none⟩ (.slice A8 ((lgsR ss k).length + 1) k8)) (.slice A8 ((lgsR ss k).length + 1) k8) (lgsR ss (k + 1)) ∧ SW w4 (w8.setCell ⟨w4.heap.size, 5, none⟩ (.slice A8 ((lgsR ss k).length + 1) k8))) := Lib.hid ⟨hB8.set _, by rw [lgsR_succ, HAT.out]; exact ROwn.far hO8 (by omega), hS⟩
        clear hc8 hf8 hSp hO8 hC8 hS hc4 hO4 hB8
        go_wp2
        go_roundw
        case rel => exact ⟨i + 5, k + 1, _, h5, by go_num, HKN, HY⟩
        case measure => simp [intOf]; omega
      · go_simp
        have hSp := hS
        have hS : SW w4 (wr.drew.alloc (.cells #[.string tA, .string tB, .int .i64 (nuV tD), .int .i64 (nuV tE), .string tQ] legT)) := Below.alloc hSp (Nat.le_trans hSr.size (Nat.le_refl _)) _
        refine hK.out _ _ hS (fun _ => ?_)
        clear hK K
        refine wpAnyH_ready (rs := [1]) (by kernel_rfl) (by simp) ?_
        refine AllReadyH.cons rfl (fun K hK => ?_) AllReadyH.nil
        have hc4 : World.cell? (wr.alloc (.cells #[.string tA, .string tB, .int .i64 (nuV tD), .int .i64 (nuV tE), .string tQ] 64)) ⟨w4.heap.size, 5, none⟩ = some (.slice Av (lgsR ss k).length cv) := (HBF.out.more (bel_alloc wr _)).c5
        go_simp
        refine hK.out _ _ hS (fun _ => ?_)
        clear hK K
        refine wpAnyH_ready (rs := [20]) (by kernel_rfl) (by simp) ?_
        refine AllReadyH.cons rfl (fun K hK => ?_) AllReadyH.nil
        refine step_rapp rtLp rfl _ _ rfl hO4 rfl (bel_alloc wr.drew _) _ (⟨tA, tB, nuV tD, nuV tE, tQ⟩ : Lg) _ rfl (cs := #[.string tA, .string tB, .int .i64 (nuV tD), .int .i64 (nuV tE), .string tQ]) rfl (heap_alloc_new _ _) HLk.out ?_
        intro v8 w8 hO8 hC8
        go_simp
        have hS : SW w4 w8 := Below.trans (Below.drew hSr) (Below.mono (hC8.below hO4) (Nat.le_succ _))
        have hB8 : BoxF w8 w4.heap.size s0 v1 pf pt pd (.slice Av (lgsR ss k).length cv) := (hC8.but.block _ (lt_heap HBF.out) (fun e => by have := (hO4.low e).1; omega)).trans HBF.out
        obtain ⟨A8, k8, e8⟩ := own_form hO8
        rw [List.length_append, List.length_singleton] at e8
        subst e8
        have hc8 := hB8.c5
        have hf8 := frozen_of_row w8 w4.heap.size 5 _ _ hB8
        refine hK.out _ _ hS (fun _ => ?_)
        clear hK K
        refine wpAnyH_take (i := 21) (v := ?vQb21) rfl (by kernel_rfl) (by kernel_rfl) (by kernel_rfl) (fun _ _ _ h => h) (Or.inl ⟨by rfl, ?hyQb21⟩) hS ?restQb21
        case hyQb21 =>
          intro w hSw
          first | (go_simp; done) | (go_simp; with_reducible rfl)
        try simp only [Act.put, List.setIfInBounds_toArray, List.set_cons_zero, List.set_cons_succ]
        refine wpAnyH_ready (rs := [22]) (by kernel_rfl) (by simp) ?_
        refine AllReadyH.cons rfl (fun K hK => ?_) AllReadyH.nil
        go_simp
        have hSp := hS
        have hS : SW w4 (w8.setCell ⟨w4.heap.size, 5, none⟩ (.slice A8 ((lgsR ss k).length + 1) k8)) := Below.setCell hSp (p := ⟨w4.heap.size, 5, none⟩) (Nat.le_refl _) _
        refine hK.out _ _ hS (fun _ => ?_)
        clear hK K
        refine wpAnyH_done (by kernel_rfl) ?_ _
        try simp only [List.getElem_toArray, List.getElem_cons_succ, List.getElem_cons_zero, List.set_cons_zero, List.set_cons_succ]
        have HY : Hid (BoxF (w8.setCell ⟨w4.heap.size, 5, none⟩ (.slice A8 ((lgsR ss k).length + 1) k8)) w4.heap.size s0 v1 pf pt pd (.slice A8 ((lgsR ss k).length + 1) k8) ∧ ROwn legT 5 encLg (w4.heap.size + 1) (w8.setCell ⟨w4.heap.size, 5, none⟩ (.slice A8 ((lgsR ss k).length + 1) k8)) (.slice A8 ((lgsR ss k).length + 1) k8) (lgsR ss (k + 1)) ∧ SW w4 (w8.setCell ⟨w4.heap.size, 5, none⟩ (.slice A8 ((lgsR ss k).length + 1) k8))) := Lib.hid ⟨hB8.set _, by rw [lgsR_succ, HAT.out]; exact ROwn.far hO8 (by omega), hS⟩
        clear hc8 hf8 hSp hO8 hC8 hS hc4 hO4 hB8
        go_wp2
        go_roundw
        case rel => exact ⟨i + 5, k + 1, _, h5, by go_num, HKN, HY⟩
        case measure => simp [intOf]; omega
    · have hkm : k = m := by have := HK.out.1; have := HN5.out; omega
      subst hkm
      have a0 : ¬ (i : Int) < (n : Int) := by omega
      have hO0 := HH.out.2.1
      obtain ⟨A7, c7, rfl⟩ := own_form hO0
      have hr := hO0.rowL rtLp.len
      have hoff := own_offM hO0
      have hBF := HH.out.1
      have he0 : erL ss k 0 = 0 := erL_of ss k 0 (fun j _ hj => HK.out.2 j (by omega))
      have HPE5 : Hid (paE ss = prE (fvR ss A7 c7)) := Lib.hid (HPE4.out (by first | trivial | rfl) (by first | trivial | rfl) he0)
      have HGG : Hid (fvR ss A7 c7 = ⟨s0, v1, pf, pt, pd, A7, c7, lgsR ss k⟩) := Lib.hid (HG.out A7 c7)
      have HPP : Hid (prE ⟨s0, v1, pf, pt, pd, A7, c7, lgsR ss k⟩ = paE ss) := Lib.hid (by rw [← HGG.out]; exact HPE5.out.symm)
      obtain ⟨pe, hpe⟩ : ∃ x, x = paE ss := ⟨_, rfl⟩
      have HPE6 := Lib.hid hpe.symm
      have KC : Hid (Calls Tryz.prog 12 #[.agg #[.string s0, .int .i64 v1, .int .i64 pf, .int .i64 pt, .int .i64 pd, .slice A7 (lgsR ss k).length c7]] wr fun e w' => ∃ t, e = .returned (.tuple #[.string t, .int .i64 pe]) ∧ Below wr.heap.size wr w') := Lib.hid (by
        have h1 := rfprint_any ⟨s0, v1, pf, pt, pd, A7, c7, lgsR ss k⟩ wr hr (ml_of (Nat.le_trans HS0.out (by omega))) HOKm.out
        rw [HPP.out, ← hpe] at h1
        exact h1.mono (by rintro e w' ⟨rfl, hb⟩; exact ⟨_, rfl, hb⟩))
      have HOFF : Hid (∀ b o n c, (Value.slice A7 (lgsR ss k).length c7) = .slice (some ⟨b, o, none⟩) n c → w.heap.size < b) := Lib.hid (fun b o n c e => Nat.lt_of_lt_of_le HLT5.out (Nat.le_trans HSW4.out.size (Nat.le_trans (Nat.le_succ _) (hoff b o n c e))))
      have r0 := (cell_of_row wr w4.heap.size 0 _ _ (0, 0) hBF).trans (show _ = some _ from rfl)
      have r1 := (cell_of_row wr w4.heap.size 1 _ _ (0, 0) hBF).trans (show _ = some _ from rfl)
      have r2 := (cell_of_row wr w4.heap.size 2 _ _ (0, 0) hBF).trans (show _ = some _ from rfl)
      have r3 := (cell_of_row wr w4.heap.size 3 _ _ (0, 0) hBF).trans (show _ = some _ from rfl)
      have r4 := (cell_of_row wr w4.heap.size 4 _ _ (0, 0) hBF).trans (show _ = some _ from rfl)
      have r5 := (cell_of_row wr w4.heap.size 5 _ _ (0, 0) hBF).trans (show _ = some _ from rfl)
      have HR4 := Lib.hid hr
      clear hr hoff hBF hO0 HH he0 hpe HOKm
      generalize lgsR ss k = L at *
      go_upto_region 24 with (go_at_call 12; refine KC.out.mono ?_; rintro e w8 ⟨tt, rfl, hb8⟩)
      have hSw : SW w5 w8 := Below.trans hSw (Below.mono hb8 hSw.size)
      have r0 := bel_cell hb8 r0
      have r1 := bel_cell hb8 r1
      have r2 := bel_cell hb8 r2
      have r3 := bel_cell hb8 r3
      have r4 := bel_cell hb8 r4
      have r5 := bel_cell hb8 r5
      have HL8 := Lib.hid (HR4.out.more hb8)
      cases q4 : (pe != 0) with
      | true =>
        have HNE : Hid (pe ≠ 0) := Lib.hid (by simpa using q4)
        have HPE : Hid (paE ss = pe) := Lib.hid HPE6.out
        go_upto_region 25 with fail
        have hx := (hSw.block _ HLT5.out).trans HN.out
        have n0 := (cell_of_row _ _ 0 _ _ (0, 0) hx).trans (show _ = some _ from rfl)
        have n1 := (cell_of_row _ _ 1 _ _ (0, 0) hx).trans (show _ = some _ from rfl)
        have n2 := (cell_of_row _ _ 2 _ _ (0, 0) hx).trans (show _ = some _ from rfl)
        have n3 := (cell_of_row _ _ 3 _ _ (0, 0) hx).trans (show _ = some _ from rfl)
        have n4 := (cell_of_row _ _ 4 _ _ (0, 0) hx).trans (show _ = some _ from rfl)
        have n5 := (cell_of_row _ _ 5 _ _ (0, 0) hx).trans (show _ = some _ from rfl)
        have z0 := frozen_of_row _ _ 0 _ _ hx
        have z1 := frozen_of_row _ _ 1 _ _ hx
        have z2 := frozen_of_row _ _ 2 _ _ hx
        have z3 := frozen_of_row _ _ 3 _ _ hx
        have z4 := frozen_of_row _ _ 4 _ _ hx
        have z5 := frozen_of_row _ _ 5 _ _ hx
        have hwb := HB0.out.trans (Below.mono hSw HB0.out.size)
        have HX2 : Hid (∀ W, W = T6 w8 w.heap.size (.string noB) (.int .i64 0) (.int .i64 0) (.int .i64 0) (.int .i64 0) (.slice none 0 0) → W.heap[w.heap.size]? = some (.cells #[.string noB, .int .i64 0, .int .i64 0, .int .i64 0, .int .i64 0, .slice none 0 0] fliT (0, 0)) ∧ Hid (But w8 W (fun k => k = w.heap.size)) ∧ Below w.heap.size w W) := Lib.hid (fun W h => by rw [h]; exact ⟨T6.heap hx _ _ _ _ _ _, Lib.hid (T6.but _ _ _ _ _ _ _ _), hwb.trans ((T6.but _ _ _ _ _ _ _ _).below hwb.size (fun k hk he => by have : k = w.heap.size := he; omega))⟩)
        clear hx hwb
        go_wp2
        obtain ⟨hxx, HBT, hbb⟩ := HX2.out _ rfl
        unfold T6 at hxx hbb HBT
        generalize hWW : (((((w8.setCell ⟨w.heap.size, 0, none⟩ (.string noB)).setCell ⟨w.heap.size, 1, none⟩ (.int .i64 0)).setCell ⟨w.heap.size, 2, none⟩ (.int .i64 0)).setCell ⟨w.heap.size, 3, none⟩ (.int .i64 0)).setCell ⟨w.heap.size, 4, none⟩ (.int .i64 0)).setCell ⟨w.heap.size, 5, none⟩ (.slice none 0 0) = WW at *
        clear hWW n0 n1 n2 n3 n4 n5 z0 z1 z2 z3 z4 z5
        have c0 := (cell_of_row WW _ 0 _ _ (0, 0) hxx).trans (show _ = some _ from rfl)
        have c1 := (cell_of_row WW _ 1 _ _ (0, 0) hxx).trans (show _ = some _ from rfl)
        have c2 := (cell_of_row WW _ 2 _ _ (0, 0) hxx).trans (show _ = some _ from rfl)
        have c3 := (cell_of_row WW _ 3 _ _ (0, 0) hxx).trans (show _ = some _ from rfl)
        have c4 := (cell_of_row WW _ 4 _ _ (0, 0) hxx).trans (show _ = some _ from rfl)
        have c5 := (cell_of_row WW _ 5 _ _ (0, 0) hxx).trans (show _ = some _ from rfl)
        refine bodyPost_ret (v := .tuple #[encFl fvZ, .int .i64 pe]) ?_ rfl ⟨fvZ, by rw [HPE.out], ⟨fun h => absurd (HPE.out.symm.trans h) HNE.out, fun _ => rfl⟩, ⟨none, 0, rfl, .inl rfl⟩, hbb⟩
        simp [results, Tryz.results14, go_sem, c0, c1, c2, c3, c4, c5, fvZ]
      | false =>
      have HE0 : Hid (paE ss = 0) := Lib.hid (by rw [HPE6.out]; simpa using q4)
      go_upto_region 26 with fail
      have hx := (hSw.block _ HLT5.out).trans HN.out
      have n0 := (cell_of_row _ _ 0 _ _ (0, 0) hx).trans (show _ = some _ from rfl)
      have n1 := (cell_of_row _ _ 1 _ _ (0, 0) hx).trans (show _ = some _ from rfl)
      have n2 := (cell_of_row _ _ 2 _ _ (0, 0) hx).trans (show _ = some _ from rfl)
      have n3 := (cell_of_row _ _ 3 _ _ (0, 0) hx).trans (show _ = some _ from rfl)
      have n4 := (cell_of_row _ _ 4 _ _ (0, 0) hx).trans (show _ = some _ from rfl)
      have n5 := (cell_of_row _ _ 5 _ _ (0, 0) hx).trans (show _ = some _ from rfl)
      have z0 := frozen_of_row _ _ 0 _ _ hx
      have z1 := frozen_of_row _ _ 1 _ _ hx
      have z2 := frozen_of_row _ _ 2 _ _ hx
      have z3 := frozen_of_row _ _ 3 _ _ hx
      have z4 := frozen_of_row _ _ 4 _ _ hx
      have z5 := frozen_of_row _ _ 5 _ _ hx
      have hwb := HB0.out.trans (Below.mono hSw HB0.out.size)
      have HX2 : Hid (∀ W, W = T6 w8 w.heap.size (.string s0) (.int .i64 v1) (.int .i64 pf) (.int .i64 pt) (.int .i64 pd) (.slice A7 L.length c7) → W.heap[w.heap.size]? = some (.cells #[.string s0, .int .i64 v1, .int .i64 pf, .int .i64 pt, .int .i64 pd, .slice A7 L.length c7] fliT (0, 0)) ∧ Hid (But w8 W (fun k => k = w.heap.size)) ∧ Below w.heap.size w W) := Lib.hid (fun W h => by rw [h]; exact ⟨T6.heap hx _ _ _ _ _ _, Lib.hid (T6.but _ _ _ _ _ _ _ _), hwb.trans ((T6.but _ _ _ _ _ _ _ _).below hwb.size (fun k hk he => by have : k = w.heap.size := he; omega))⟩)
      clear hx hwb
      go_wp2
      obtain ⟨hxx, HBT, hbb⟩ := HX2.out _ rfl
      unfold T6 at hxx hbb HBT
      generalize hWW : (((((w8.setCell ⟨w.heap.size, 0, none⟩ (.string s0)).setCell ⟨w.heap.size, 1, none⟩ (.int .i64 v1)).setCell ⟨w.heap.size, 2, none⟩ (.int .i64 pf)).setCell ⟨w.heap.size, 3, none⟩ (.int .i64 pt)).setCell ⟨w.heap.size, 4, none⟩ (.int .i64 pd)).setCell ⟨w.heap.size, 5, none⟩ (.slice A7 L.length c7) = WW at *
      clear hWW n0 n1 n2 n3 n4 n5 z0 z1 z2 z3 z4 z5
      have c0 := (cell_of_row WW _ 0 _ _ (0, 0) hxx).trans (show _ = some _ from rfl)
      have c1 := (cell_of_row WW _ 1 _ _ (0, 0) hxx).trans (show _ = some _ from rfl)
      have c2 := (cell_of_row WW _ 2 _ _ (0, 0) hxx).trans (show _ = some _ from rfl)
      have c3 := (cell_of_row WW _ 3 _ _ (0, 0) hxx).trans (show _ = some _ from rfl)
      have c4 := (cell_of_row WW _ 4 _ _ (0, 0) hxx).trans (show _ = some _ from rfl)
      have c5 := (cell_of_row WW _ 5 _ _ (0, 0) hxx).trans (show _ = some _ from rfl)
      have hLL := LegL.off HL8.out HOFF.out HBT.out
      refine bodyPost_ret (v := .tuple #[.agg #[.string s0, .int .i64 v1, .int .i64 pf, .int .i64 pt, .int .i64 pd, .slice A7 L.length c7], .int .i64 0]) ?_ rfl ⟨⟨s0, v1, pf, pt, pd, A7, c7, L⟩, by rw [HE0.out], ⟨fun _ => HGG.out.symm, fun h => absurd HE0.out h⟩, hLL, hbb⟩
      simp [results, Tryz.results14, go_sem, c0, c1, c2, c3, c4, c5]
set_option maxRecDepth 100000 in
set_option maxHeartbeats 8000000 in
theorem rfparse_no (s : ByteArray) (w : World) (hs : s.size ≤ 1000) (h : ∀ l, s.data.toList ≠ joinL l) :
    Calls Tryz.prog 14 #[.string s] w fun e w' => e = .returned (.tuple #[encFl fvZ, .int .i64 3]) ∧ Below w.heap.size w w' := by
  have hb0 := bel_alloc w (.cells #[.string noB, .int .i64 0, .int .i64 0, .int .i64 0, .int .i64 0, .slice none 0 0] fliT)
  have hN := heap_alloc_new w (.cells #[.string noB, .int .i64 0, .int .i64 0, .int .i64 0, .int .i64 0, .slice none 0 0] fliT)
  have KW0 := Lib.hid (fun W => Txt.rwords_no s W hs h)
  have HB0 := Lib.hid hb0
  clear h
  go_enter Tryz.func14, Tryz.ntmps14
  go_upto_region 1 with fail
  generalize hw5 : w.alloc (.cells #[.string noB, .int .i64 0, .int .i64 0, .int .i64 0, .int .i64 0, .slice none 0 0] fliT) = w5 at *
  clear hw5
  have HN := Lib.hid hN
  have HLT5 : Hid (w.heap.size < w5.heap.size) := Lib.hid (lt_heap hN)
  clear hN hb0
  go_upto_region 3 with (go_at_call 49; refine (KW0.out _).mono ?_; rintro e w1 ⟨rfl, hS1⟩)
  have hSw : SW w5 w1 := hS1
  have hx := (hSw.block _ HLT5.out).trans HN.out
  have n0 := (cell_of_row _ _ 0 _ _ (0, 0) hx).trans (show _ = some _ from rfl)
  have n1 := (cell_of_row _ _ 1 _ _ (0, 0) hx).trans (show _ = some _ from rfl)
  have n2 := (cell_of_row _ _ 2 _ _ (0, 0) hx).trans (show _ = some _ from rfl)
  have n3 := (cell_of_row _ _ 3 _ _ (0, 0) hx).trans (show _ = some _ from rfl)
  have n4 := (cell_of_row _ _ 4 _ _ (0, 0) hx).trans (show _ = some _ from rfl)
  have n5 := (cell_of_row _ _ 5 _ _ (0, 0) hx).trans (show _ = some _ from rfl)
  have z0 := frozen_of_row _ _ 0 _ _ hx
  have z1 := frozen_of_row _ _ 1 _ _ hx
  have z2 := frozen_of_row _ _ 2 _ _ hx
  have z3 := frozen_of_row _ _ 3 _ _ hx
  have z4 := frozen_of_row _ _ 4 _ _ hx
  have z5 := frozen_of_row _ _ 5 _ _ hx
  have hwb := HB0.out.trans (Below.mono hSw HB0.out.size)
  have HX2 : Hid (∀ W, W = T6 w1 w.heap.size (.string noB) (.int .i64 0) (.int .i64 0) (.int .i64 0) (.int .i64 0) (.slice none 0 0) → W.heap[w.heap.size]? = some (.cells #[.string noB, .int .i64 0, .int .i64 0, .int .i64 0, .int .i64 0, .slice none 0 0] fliT (0, 0)) ∧ Hid (But w1 W (fun k => k = w.heap.size)) ∧ Below w.heap.size w W) := Lib.hid (fun W h => by rw [h]; exact ⟨T6.heap hx _ _ _ _ _ _, Lib.hid (T6.but _ _ _ _ _ _ _ _), hwb.trans ((T6.but _ _ _ _ _ _ _ _).below hwb.size (fun k hk he => by have : k = w.heap.size := he; omega))⟩)
  clear hx hwb
  go_wp2
  obtain ⟨hxx, HBT, hbb⟩ := HX2.out _ rfl
  unfold T6 at hxx hbb HBT
  generalize hWW : (((((w1.setCell ⟨w.heap.size, 0, none⟩ (.string noB)).setCell ⟨w.heap.size, 1, none⟩ (.int .i64 0)).setCell ⟨w.heap.size, 2, none⟩ (.int .i64 0)).setCell ⟨w.heap.size, 3, none⟩ (.int .i64 0)).setCell ⟨w.heap.size, 4, none⟩ (.int .i64 0)).setCell ⟨w.heap.size, 5, none⟩ (.slice none 0 0) = WW at *
  clear hWW n0 n1 n2 n3 n4 n5 z0 z1 z2 z3 z4 z5
  have c0 := (cell_of_row WW _ 0 _ _ (0, 0) hxx).trans (show _ = some _ from rfl)
  have c1 := (cell_of_row WW _ 1 _ _ (0, 0) hxx).trans (show _ = some _ from rfl)
  have c2 := (cell_of_row WW _ 2 _ _ (0, 0) hxx).trans (show _ = some _ from rfl)
  have c3 := (cell_of_row WW _ 3 _ _ (0, 0) hxx).trans (show _ = some _ from rfl)
  have c4 := (cell_of_row WW _ 4 _ _ (0, 0) hxx).trans (show _ = some _ from rfl)
  have c5 := (cell_of_row WW _ 5 _ _ (0, 0) hxx).trans (show _ = some _ from rfl)
  refine bodyPost_ret (v := .tuple #[encFl fvZ, .int .i64 3]) ?_ rfl ⟨rfl, hbb⟩
  simp [results, Tryz.results14, go_sem, c0, c1, c2, c3, c4, c5, fvZ]

end Go.Proofs.YtmmpalnalogfnaaGreatDoor

/- Walk of Legs. -/
namespace Go.Proofs.YtmmpalnalogfnaaGreatDoor
open Go.RowKit Go.Shelf
set_option linter.unusedSimpArgs false
set_option linter.unusedVariables false

/-- a leg on a day -/
structure Dt where
  car : ByteArray
  num : Int
  day : Int
  f : ByteArray
  t : ByteArray
  dep : Int
  arr : Int
  eq : ByteArray
abbrev datT : TypeId := 75
def encDt (d : Dt) : List Value := [.string d.car, .int .i64 d.num, .int .i64 d.day, .string d.f, .string d.t, .int .i64 d.dep, .int .i64 d.arr, .string d.eq]
theorem rtD : RT Tryz.prog 70 datT 8 encDt where
  ht := Tryz.underlying70
  info := ⟨.agg #[.string noB, .int .i64 0, .int .i64 0, .string noB, .string noB, .int .i64 0, .int .i64 0, .string noB], 96, by kernel_rfl, rfl, by omega⟩
  len x := rfl
  one x u hu := by simp [encDt] at hu; rcases hu with rfl | rfl | rfl | rfl | rfl | rfl | rfl | rfl <;> rfl
  pos := by omega
def datL (l : List Air) (f : FV) (day : Int) (x : Lg) : Dt := ⟨f.car, f.num, day, x.f, x.t, depL l x day, arrL l x day, x.eq⟩
def legE (f : FV) (day : Int) : Int := if Per.hasQ (f.pf, f.pt, f.pd) day then 0 else 12
def legF (l : List Air) (f : FV) (day : Int) : List Dt := if Per.hasQ (f.pf, f.pt, f.pd) day then f.lg.map (datL l f day) else []
theorem has_bd {q : Int × Int × Int} {d : Int} (h : Per.hasQ q d = true) : 0 ≤ d ∧ d < 36525 := days_bd ((Per.daysQ_mem _ _).2 h)

set_option maxRecDepth 100000 in
set_option maxHeartbeats 8000000 in
theorem legs_any (p : PV) (f : FV) (day : Int) (w : World) (hl : p.l.length ≤ 40) (hL : AirL w p.A p.l) (hs : ∀ a ∈ p.l, a.shs.length ≤ 300) (hz : ∀ a ∈ p.l, OkZ a.off a.shs) (hG : LegL w (.slice f.A f.lg.length f.c) f.lg) (hn : f.lg.length ≤ 100)
    (hm : ∀ x ∈ f.lg, (-1000000 ≤ x.dep ∧ x.dep ≤ 1000000) ∧ -1000000 ≤ x.arr ∧ x.arr ≤ 1000000) (hd1 : -9223372036854775808 ≤ day) (hd2 : day ≤ 9223372036854775807) :
    Calls Tryz.prog 32 #[encP p, encFl f, .int .i64 day] w fun e w' => ∃ v, e = .returned (.tuple #[v, .int .i64 (legE f day)]) ∧ ROwn datT 8 encDt w.heap.size w' v (legF p.l f day) ∧ Below w.heap.size w w' := by
  have hb1 := bel_alloc w (.cells #[.slice p.A p.l.length p.ca, .slice p.D p.ds.length p.cd] placesT)
  have hb2 := bel_alloc (w.alloc (.cells #[.slice p.A p.l.length p.ca, .slice p.D p.ds.length p.cd] placesT)) (.cells #[.string f.car, .int .i64 f.num, .int .i64 f.pf, .int .i64 f.pt, .int .i64 f.pd, .slice f.A f.lg.length f.c] fliT)
  have hb0 := hb1.trans (hb2.mono hb1.size)
  have p0 := bel_cell hb2 ((cells_new w #[.slice p.A p.l.length p.ca, .slice p.D p.ds.length p.cd] placesT 0).trans (show _ = some (.slice p.A p.l.length p.ca) from rfl))
  have p1 := bel_cell hb2 ((cells_new w #[.slice p.A p.l.length p.ca, .slice p.D p.ds.length p.cd] placesT 1).trans (show _ = some (.slice p.D p.ds.length p.cd) from rfl))
  have q0 := (cells_new (w.alloc (.cells #[.slice p.A p.l.length p.ca, .slice p.D p.ds.length p.cd] placesT)) #[.string f.car, .int .i64 f.num, .int .i64 f.pf, .int .i64 f.pt, .int .i64 f.pd, .slice f.A f.lg.length f.c] fliT 0).trans (show _ = some (.string f.car) from rfl)
  have q1 := (cells_new (w.alloc (.cells #[.slice p.A p.l.length p.ca, .slice p.D p.ds.length p.cd] placesT)) #[.string f.car, .int .i64 f.num, .int .i64 f.pf, .int .i64 f.pt, .int .i64 f.pd, .slice f.A f.lg.length f.c] fliT 1).trans (show _ = some (.int .i64 f.num) from rfl)
  have q5 := (cells_new (w.alloc (.cells #[.slice p.A p.l.length p.ca, .slice p.D p.ds.length p.cd] placesT)) #[.string f.car, .int .i64 f.num, .int .i64 f.pf, .int .i64 f.pt, .int .i64 f.pd, .slice f.A f.lg.length f.c] fliT 5).trans (show _ = some (.slice f.A f.lg.length f.c) from rfl)
  rw [World.size_alloc] at q0 q1 q5
  have HZ := Lib.hid hz
  have HM := Lib.hid hm
  have KH := Lib.hid (fun w => Per.has_any f.pf f.pt f.pd day w hd1 hd2)
  cases hh : Per.hasQ (f.pf, f.pt, f.pd) day with
  | false =>
    have HE : Hid (legE f day = 12 ∧ legF p.l f day = []) := Lib.hid ⟨by rw [legE, hh]; rfl, by rw [legF, hh]; rfl⟩
    rw [hh] at KH
    clear hh hz hm
    go_enter Tryz.func32, Tryz.ntmps32
    go_wp2_with (go_at_call 77; refine (KH.out _).mono ?_; rintro e w1 ⟨rfl, hbh⟩)
    have h1 := hb0.trans (Below.mono hbh hb0.size)
    exact bodyPost_ret (results_tmp2 rfl _ _ _) rfl ⟨_, by rw [HE.out.1]; rfl, by rw [HE.out.2]; exact ROwn.nil h1.size, h1⟩
  | true =>
    have hdb := has_bd hh
    have HE : Hid (legE f day = 0 ∧ legF p.l f day = f.lg.map (datL p.l f day)) := Lib.hid ⟨by rw [legE, hh]; rfl, by rw [legF, hh]; rfl⟩
    rw [hh] at KH
    have KN := Lib.hid (fun w hA hG => nonstops_any p f.A f.c f.lg w hl hA hs hG hn)
    have HL := Lib.hid (hL.more hb0)
    have HG := Lib.hid (hG.more hb0)
    have HD := Lib.hid hdb
    clear hh hz hm hL hG hd1 hd2 hdb
    go_enter Tryz.func32, Tryz.ntmps32
    go_wp2_with (first | (go_at_call 83; refine (KN.out _ (HL.out.more hbh) (HG.out.more hbh)).mono ?_; rintro e w2 ⟨v1, N1, rfl, hv1, hLn, hN, hbn⟩; obtain ⟨A1, c1, rfl, hvc⟩ := id (hv1.rowL rtN.len); rw [hLn]) | (go_at_call 77; refine (KH.out _).mono ?_; rintro e w1 ⟨rfl, hbh⟩; have r0 := bel_cell hbh p0; have r1 := bel_cell hbh p1; have r5 := bel_cell hbh q5))
    have hS0 : Below w.heap.size w w2 := hb0.trans ((hbh.mono hb0.size).trans (hbn.mono (Nat.le_trans hb0.size hbh.size)))
    have HV := Lib.hid (hv1.rowL rtN.len)
    have HN := Lib.hid hN
    have HLn := Lib.hid hLn
    have c0 := bel_cell hbn (bel_cell hbh q0)
    have c1' := bel_cell hbn (bel_cell hbh q1)
    have hsz : w.heap.size + 2 ≤ w2.heap.size := by have h1 := hbh.size; have h2 := hbn.size; rw [World.size_alloc, World.size_alloc] at h1; omega
    have HNil : Hid (ROwn datT 8 encDt w2.heap.size w2 (.slice none 0 0) []) := Lib.hid (ROwn.nil (Nat.le_refl _))
    clear hv1 hN hLn hvc KN KH q0 q1 q5 p0 p1 r0 r1 r5
    go_loopg [8, 21] f.lg.length (fun kx v8 vi wr => ∃ (v : Value) (k : Nat), v = v8 ∧ vi = .int .i64 k ∧ k + kx = f.lg.length ∧ Hid (ROwn datT 8 encDt w2.heap.size wr v ((f.lg.take k).map (datL p.l f day)) ∧ SW w2 wr))
    case atStart => exact ⟨_, 0, rfl, rfl, by omega, Lib.hid ⟨HNil.out, Below.refl _ _⟩⟩
    case round =>
      obtain ⟨v, k, rfl, rfl, hkx, HH⟩ := hrel
      clear HNil
      have HKX := Lib.hid hkx
      have hSr : SW w2 wr := HH.out.2
      by_cases hlt : k < f.lg.length
      · clear hkx
        obtain ⟨x, hx⟩ : ∃ x, f.lg[k]? = some x := ⟨_, List.getElem?_eq_getElem hlt⟩
        obtain ⟨b, o, n, e1, hbl, hnk, hc⟩ := RowL.get9 (HV.out.more hSr) (show k < N1.length by have := HLn.out; omega)
        cases e1
        have hns := HN.out k x n hx hnk
        have hzf := okZ_of HZ.out x.f
        have hzt := okZ_of HZ.out x.t
        have hmx := HM.out x (List.mem_of_getElem? hx)
        have hdb := HD.out
        obtain ⟨dd, hdd⟩ : ∃ dd, dd = utcZ n.fo n.fs (day * 1440 + n.x.dep) := ⟨_, rfl⟩
        obtain ⟨aa, haa⟩ : ∃ aa, aa = utcZ n.ti n.ts (day * 1440 + n.x.arr) := ⟨_, rfl⟩
        have HX : Hid (datL p.l f day x = (⟨f.car, f.num, day, n.x.f, n.x.t, dd, aa, n.x.eq⟩ : Dt)) := Lib.hid (by unfold datL depL arrL; rw [hdd, haa, hns.fo, hns.fs, hns.ti, hns.ts, hns.ex])
        have HTk : Hid ((f.lg.take (k + 1)).map (datL p.l f day) = (f.lg.take k).map (datL p.l f day) ++ [(⟨f.car, f.num, day, n.x.f, n.x.t, dd, aa, n.x.eq⟩ : Dt)]) := Lib.hid (by
          rw [List.take_add_one, hx, List.map_append, ← HX.out]; rfl)
        have hO := HH.out.1
        have HLL : Hid (((f.lg.take k).map (datL p.l f day)).length ≤ 100000000) := Lib.hid (by have := List.length_take_le k f.lg; rw [List.length_map]; omega)
        have HV1 : Hid (∀ g, v.ownBlock = some g → w2.heap.size ≤ g ∧ g < wr.heap.size) := Lib.hid (fun g hg => hO.low hg)
        have hvf : v.ownBlock ≠ some (w.heap.size + 1) := fun h => by have := (HV1.out _ h).1; omega
        have hvn : v.ownBlock ≠ some wr.heap.size := fun h => by have := (HV1.out _ h).2; omega
        have hb6 := bel_alloc wr (.cells (encNS n).toArray nonT)
        have g0 : ∀ W, SX (wr.alloc (.cells (encNS n).toArray nonT)) v W → W.cell? ⟨w.heap.size + 1, 0, none⟩ = some (.string f.car) := fun W h => SX.cell (bel_cell hb6 (bel_cell hSr c0)) hvf h
        have g1 : ∀ W, SX (wr.alloc (.cells (encNS n).toArray nonT)) v W → W.cell? ⟨w.heap.size + 1, 1, none⟩ = some (.int .i64 f.num) := fun W h => SX.cell (bel_cell hb6 (bel_cell hSr c1')) hvf h
        have n0 : ∀ W, SX (wr.alloc (.cells (encNS n).toArray nonT)) v W → W.cell? ⟨wr.heap.size, 0, none⟩ = some (Value.string n.x.f) := fun W h => SX.cell ((cells_new wr (encNS n).toArray nonT 0).trans (show _ = some (Value.string n.x.f) from rfl)) hvn h
        have n1 : ∀ W, SX (wr.alloc (.cells (encNS n).toArray nonT)) v W → W.cell? ⟨wr.heap.size, 1, none⟩ = some (Value.string n.x.t) := fun W h => SX.cell ((cells_new wr (encNS n).toArray nonT 1).trans (show _ = some (Value.string n.x.t) from rfl)) hvn h
        have n2 : ∀ W, SX (wr.alloc (.cells (encNS n).toArray nonT)) v W → W.cell? ⟨wr.heap.size, 2, none⟩ = some (Value.int .i64 n.x.dep) := fun W h => SX.cell ((cells_new wr (encNS n).toArray nonT 2).trans (show _ = some (Value.int .i64 n.x.dep) from rfl)) hvn h
        have n3 : ∀ W, SX (wr.alloc (.cells (encNS n).toArray nonT)) v W → W.cell? ⟨wr.heap.size, 3, none⟩ = some (Value.int .i64 n.x.arr) := fun W h => SX.cell ((cells_new wr (encNS n).toArray nonT 3).trans (show _ = some (Value.int .i64 n.x.arr) from rfl)) hvn h
        have n4 : ∀ W, SX (wr.alloc (.cells (encNS n).toArray nonT)) v W → W.cell? ⟨wr.heap.size, 4, none⟩ = some (Value.string n.x.eq) := fun W h => SX.cell ((cells_new wr (encNS n).toArray nonT 4).trans (show _ = some (Value.string n.x.eq) from rfl)) hvn h
        have n5 : ∀ W, SX (wr.alloc (.cells (encNS n).toArray nonT)) v W → W.cell? ⟨wr.heap.size, 5, none⟩ = some (Value.int .i64 n.fo) := fun W h => SX.cell ((cells_new wr (encNS n).toArray nonT 5).trans (show _ = some (Value.int .i64 n.fo) from rfl)) hvn h
        have n6 : ∀ W, SX (wr.alloc (.cells (encNS n).toArray nonT)) v W → W.cell? ⟨wr.heap.size, 6, none⟩ = some (Value.slice n.fA n.fs.length n.fc) := fun W h => SX.cell ((cells_new wr (encNS n).toArray nonT 6).trans (show _ = some (Value.slice n.fA n.fs.length n.fc) from rfl)) hvn h
        have n7 : ∀ W, SX (wr.alloc (.cells (encNS n).toArray nonT)) v W → W.cell? ⟨wr.heap.size, 7, none⟩ = some (Value.int .i64 n.ti) := fun W h => SX.cell ((cells_new wr (encNS n).toArray nonT 7).trans (show _ = some (Value.int .i64 n.ti) from rfl)) hvn h
        have n8 : ∀ W, SX (wr.alloc (.cells (encNS n).toArray nonT)) v W → W.cell? ⟨wr.heap.size, 8, none⟩ = some (Value.slice n.tA n.ts.length n.tc) := fun W h => SX.cell ((cells_new wr (encNS n).toArray nonT 8).trans (show _ = some (Value.slice n.tA n.ts.length n.tc) from rfl)) hvn h
        have HSW : Hid (∀ W, SX (wr.alloc (.cells (encNS n).toArray nonT)) v W → Below w2.heap.size w2 W) := Lib.hid (fun W h => Below.trans hSr (((hb6.mono hSr.size)).trans (h.below (Nat.le_trans hSr.size hb6.size) (fun k' hk' hv => by have := (HV1.out _ hv).1; omega))))
        have K1 : Hid (∀ W, SX (wr.alloc (.cells (encNS n).toArray nonT)) v W → Calls Tryz.prog 84 #[encN n, .int .i64 day] W fun e w' => e = .returned (.int .i64 dd) ∧ Below W.heap.size W w') :=
          Lib.hid (fun W hW => by rw [hdd]; exact departure_any n day W (by rw [hns.fo, hns.fs]; exact hzf) (hns.shf.1.more (HSW.out W hW)) (by omega) (by rw [hns.ex]; exact hmx.1))
        have K2 : Hid (∀ W, SX (wr.alloc (.cells (encNS n).toArray nonT)) v W → Calls Tryz.prog 85 #[encN n, .int .i64 day] W fun e w' => e = .returned (.int .i64 aa) ∧ Below W.heap.size W w') :=
          Lib.hid (fun W hW => by rw [haa]; exact arrival_any n day W (by rw [hns.ti, hns.ts]; exact hzt) (hns.sht.1.more (HSW.out W hW)) (by omega) (by rw [hns.ex]; exact hmx.2))
        have i2 : (k : Int) < (f.lg.length : Int) := by omega
        have z0 := hc 0 _ rfl
        have z1 := hc 1 _ rfl
        have z2 := hc 2 _ rfl
        have z3 := hc 3 _ rfl
        have z4 := hc 4 _ rfl
        have z5 := hc 5 _ rfl
        have z6 := hc 6 _ rfl
        have z7 := hc 7 _ rfl
        have z8 := hc 8 _ rfl
        rw [Nat.add_zero] at z0
        have hO := hO.more (hb6.trans ((Below.refl _ (wr.alloc (.cells (encNS n).toArray nonT))).drew.mono hb6.size))
        clear hns hx hnk hc hzf hzt hmx hdd haa hdb HX
        unfold encNS at *
        go_upto_region 7 with (fail)
        generalize hw6 : wr.alloc (.cells [.string n.x.f, .string n.x.t, .int .i64 n.x.dep, .int .i64 n.x.arr, .string n.x.eq, .int .i64 n.fo, .slice n.fA n.fs.length n.fc, .int .i64 n.ti, .slice n.tA n.ts.length n.tc].toArray nonT) = w6 at *
        have hS : (SX w6 v) _ := But.of_below (Below.refl _ _).drew
        refine wp_region_held_drew (S := SX w6 v) (by kernel_rfl) hS (fun _ => ?_)
        refine wpAnyH_take (i := 0) (v := ?vL0) rfl (by kernel_rfl) (by kernel_rfl) (by kernel_rfl) (fun _ _ _ h => h) (Or.inl ⟨by rfl, ?hyL0⟩) hS ?restL0
        case hyL0 =>
          intro w hSw
          first | (go_simp; done) | (go_simp; with_reducible rfl)
        try simp only [Act.put, List.setIfInBounds_toArray, List.set_cons_zero, List.set_cons_succ]
        refine wpAnyH_take (i := 1) (v := ?vL1) rfl (by kernel_rfl) (by kernel_rfl) (by kernel_rfl) (fun _ _ _ h => h) (Or.inl ⟨by rfl, ?hyL1⟩) hS ?restL1
        case hyL1 =>
          intro w hSw
          first | (go_simp; done) | (go_simp; with_reducible rfl)
        try simp only [Act.put, List.setIfInBounds_toArray, List.set_cons_zero, List.set_cons_succ]
        refine wpAnyH_take (i := 2) (v := ?vL2) rfl (by kernel_rfl) (by kernel_rfl) (by kernel_rfl) (fun _ _ _ h => h) (Or.inl ⟨by rfl, ?hyL2⟩) hS ?restL2
        case hyL2 =>
          intro w hSw
          have k0 := g0 w hSw; have k1 := g1 w hSw; have k2 := n0 w hSw; have k3 := n1 w hSw; have k4 := n2 w hSw; have k5 := n3 w hSw; have k6 := n4 w hSw; have k7 := n5 w hSw; have k8 := n6 w hSw; have k9 := n7 w hSw; have k10 := n8 w hSw
          first | (go_simp; done) | (go_simp; with_reducible rfl)
        try simp only [Act.put, List.setIfInBounds_toArray, List.set_cons_zero, List.set_cons_succ]
        refine wpAnyH_take (i := 3) (v := ?vL3) rfl (by kernel_rfl) (by kernel_rfl) (by kernel_rfl) (fun _ _ _ h => h) (Or.inl ⟨by rfl, ?hyL3⟩) hS ?restL3
        case hyL3 =>
          intro w hSw
          first | (go_simp; done) | (go_simp; with_reducible rfl)
        try simp only [Act.put, List.setIfInBounds_toArray, List.set_cons_zero, List.set_cons_succ]
        refine wpAnyH_take (i := 4) (v := ?vL4) rfl (by kernel_rfl) (by kernel_rfl) (by kernel_rfl) (fun _ _ _ h => h) (Or.inl ⟨by rfl, ?hyL4⟩) hS ?restL4
        case hyL4 =>
          intro w hSw
          have k0 := g0 w hSw; have k1 := g1 w hSw; have k2 := n0 w hSw; have k3 := n1 w hSw; have k4 := n2 w hSw; have k5 := n3 w hSw; have k6 := n4 w hSw; have k7 := n5 w hSw; have k8 := n6 w hSw; have k9 := n7 w hSw; have k10 := n8 w hSw
          first | (go_simp; done) | (go_simp; with_reducible rfl)
        try simp only [Act.put, List.setIfInBounds_toArray, List.set_cons_zero, List.set_cons_succ]
        refine wpAnyH_take (i := 5) (v := ?vL5) rfl (by kernel_rfl) (by kernel_rfl) (by kernel_rfl) (fun _ _ _ h => h) (Or.inl ⟨by rfl, ?hyL5⟩) hS ?restL5
        case hyL5 =>
          intro w hSw
          first | (go_simp; done) | (go_simp; with_reducible rfl)
        try simp only [Act.put, List.setIfInBounds_toArray, List.set_cons_zero, List.set_cons_succ]
        refine wpAnyH_take (i := 6) (v := ?vL6) rfl (by kernel_rfl) (by kernel_rfl) (by kernel_rfl) (fun _ _ _ h => h) (Or.inl ⟨by rfl, ?hyL6⟩) hS ?restL6
        case hyL6 =>
          intro w hSw
          first | (go_simp; done) | (go_simp; with_reducible rfl)
        try simp only [Act.put, List.setIfInBounds_toArray, List.set_cons_zero, List.set_cons_succ]
        refine wpAnyH_take (i := 7) (v := ?vL7) rfl (by kernel_rfl) (by kernel_rfl) (by kernel_rfl) (fun _ _ _ h => h) (Or.inl ⟨by rfl, ?hyL7⟩) hS ?restL7
        case hyL7 =>
          intro w hSw
          first | (go_simp; done) | (go_simp; with_reducible rfl)
        try simp only [Act.put, List.setIfInBounds_toArray, List.set_cons_zero, List.set_cons_succ]
        refine wpAnyH_take (i := 8) (v := ?vL8) rfl (by kernel_rfl) (by kernel_rfl) (by kernel_rfl) (fun _ _ _ h => h) (Or.inl ⟨by rfl, ?hyL8⟩) hS ?restL8
        case hyL8 =>
          intro w hSw
          have k0 := g0 w hSw; have k1 := g1 w hSw; have k2 := n0 w hSw; have k3 := n1 w hSw; have k4 := n2 w hSw; have k5 := n3 w hSw; have k6 := n4 w hSw; have k7 := n5 w hSw; have k8 := n6 w hSw; have k9 := n7 w hSw; have k10 := n8 w hSw
          first | (go_simp; done) | (go_simp; with_reducible rfl)
        try simp only [Act.put, List.setIfInBounds_toArray, List.set_cons_zero, List.set_cons_succ]
        refine wpAnyH_take (i := 9) (v := ?vL9) rfl (by kernel_rfl) (by kernel_rfl) (by kernel_rfl) (fun _ _ _ h => h) (Or.inl ⟨by rfl, ?hyL9⟩) hS ?restL9
        case hyL9 =>
          intro w hSw
          first | (go_simp; done) | (go_simp; with_reducible rfl)
        try simp only [Act.put, List.setIfInBounds_toArray, List.set_cons_zero, List.set_cons_succ]
        refine wpAnyH_take (i := 10) (v := ?vL10) rfl (by kernel_rfl) (by kernel_rfl) (by kernel_rfl) (fun _ _ _ h => h) (Or.inl ⟨by rfl, ?hyL10⟩) hS ?restL10
        case hyL10 =>
          intro w hSw
          first | (go_simp; done) | (go_simp; with_reducible rfl)
        try simp only [Act.put, List.setIfInBounds_toArray, List.set_cons_zero, List.set_cons_succ]
        refine wpAnyH_take (i := 11) (v := ?vL11) rfl (by kernel_rfl) (by kernel_rfl) (by kernel_rfl) (fun _ _ _ h => h) (Or.inl ⟨by rfl, ?hyL11⟩) hS ?restL11
        case hyL11 =>
          intro w hSw
          have k0 := g0 w hSw; have k1 := g1 w hSw; have k2 := n0 w hSw; have k3 := n1 w hSw; have k4 := n2 w hSw; have k5 := n3 w hSw; have k6 := n4 w hSw; have k7 := n5 w hSw; have k8 := n6 w hSw; have k9 := n7 w hSw; have k10 := n8 w hSw
          first | (go_simp; done) | (go_simp; with_reducible rfl)
        try simp only [Act.put, List.setIfInBounds_toArray, List.set_cons_zero, List.set_cons_succ]
        refine wpAnyH_take (i := 12) (v := ?vL12) rfl (by kernel_rfl) (by kernel_rfl) (by kernel_rfl) (fun _ _ _ h => h) (Or.inl ⟨by rfl, ?hyL12⟩) hS ?restL12
        case hyL12 =>
          intro w hSw
          have k0 := g0 w hSw; have k1 := g1 w hSw; have k2 := n0 w hSw; have k3 := n1 w hSw; have k4 := n2 w hSw; have k5 := n3 w hSw; have k6 := n4 w hSw; have k7 := n5 w hSw; have k8 := n6 w hSw; have k9 := n7 w hSw; have k10 := n8 w hSw
          first | (go_simp; done) | (go_simp; with_reducible rfl)
        try simp only [Act.put, List.setIfInBounds_toArray, List.set_cons_zero, List.set_cons_succ]
        refine wpAnyH_take (i := 13) (v := ?vL13) rfl (by kernel_rfl) (by kernel_rfl) (by kernel_rfl) (fun _ _ _ h => h) (Or.inl ⟨by rfl, ?hyL13⟩) hS ?restL13
        case hyL13 =>
          intro w hSw
          first | (go_simp; done) | (go_simp; with_reducible rfl)
        try simp only [Act.put, List.setIfInBounds_toArray, List.set_cons_zero, List.set_cons_succ]
        refine wpAnyH_take (i := 15) (v := ?vL15) rfl (by kernel_rfl) (by kernel_rfl) (by kernel_rfl) (fun _ _ _ h => h) (Or.inl ⟨by rfl, ?hyL15⟩) hS ?restL15
        case hyL15 =>
          intro w hSw
          have k0 := g0 w hSw; have k1 := g1 w hSw; have k2 := n0 w hSw; have k3 := n1 w hSw; have k4 := n2 w hSw; have k5 := n3 w hSw; have k6 := n4 w hSw; have k7 := n5 w hSw; have k8 := n6 w hSw; have k9 := n7 w hSw; have k10 := n8 w hSw
          first | (go_simp; done) | (go_simp; with_reducible rfl)
        try simp only [Act.put, List.setIfInBounds_toArray, List.set_cons_zero, List.set_cons_succ]
        refine wpAnyH_take (i := 16) (v := ?vL16) rfl (by kernel_rfl) (by kernel_rfl) (by kernel_rfl) (fun _ _ _ h => h) (Or.inl ⟨by rfl, ?hyL16⟩) hS ?restL16
        case hyL16 =>
          intro w hSw
          first | (go_simp; done) | (go_simp; with_reducible rfl)
        try simp only [Act.put, List.setIfInBounds_toArray, List.set_cons_zero, List.set_cons_succ]
        refine wpAnyH_take (i := 18) (v := ?vL18) rfl (by kernel_rfl) (by kernel_rfl) (by kernel_rfl) (fun _ _ _ h => h) (Or.inl ⟨by rfl, ?hyL18⟩) hS ?restL18
        case hyL18 =>
          intro w hSw
          first | (go_simp; done) | (go_simp; with_reducible rfl)
        try simp only [Act.put, List.setIfInBounds_toArray, List.set_cons_zero, List.set_cons_succ]
        refine wpAnyH_take (i := 19) (v := ?vL19) rfl (by kernel_rfl) (by kernel_rfl) (by kernel_rfl) (fun _ _ _ h => h) (Or.inl ⟨by rfl, ?hyL19⟩) hS ?restL19
        case hyL19 =>
          intro w hSw
          first | (go_simp; done) | (go_simp; with_reducible rfl)
        try simp only [Act.put, List.setIfInBounds_toArray, List.set_cons_zero, List.set_cons_succ]
        refine wpAnyH_take (i := 20) (v := ?vL20) rfl (by kernel_rfl) (by kernel_rfl) (by kernel_rfl) (fun _ _ _ h => h) (Or.inl ⟨by rfl, ?hyL20⟩) hS ?restL20
        case hyL20 =>
          intro w hSw
          have k0 := g0 w hSw; have k1 := g1 w hSw; have k2 := n0 w hSw; have k3 := n1 w hSw; have k4 := n2 w hSw; have k5 := n3 w hSw; have k6 := n4 w hSw; have k7 := n5 w hSw; have k8 := n6 w hSw; have k9 := n7 w hSw; have k10 := n8 w hSw
          first | (go_simp; done) | (go_simp; with_reducible rfl)
        try simp only [Act.put, List.setIfInBounds_toArray, List.set_cons_zero, List.set_cons_succ]
        refine wpAnyH_ready (rs := [14]) (by kernel_rfl) (by simp) ?_
        refine AllReadyH.cons rfl (fun K hK => ?_) AllReadyH.nil
        go_simp
        go_wp2_with ((go_at_call 84; refine (K1.out _ hS).mono ?_; rintro e w' ⟨rfl, hb'⟩; have hO := hO.more hb'; have hS := hS.on hb'))
        refine hK.out _ _ hS (fun _ => ?_)
        clear hK K
        refine wpAnyH_ready (rs := [17]) (by kernel_rfl) (by simp) ?_
        refine AllReadyH.cons rfl (fun K hK => ?_) AllReadyH.nil
        go_simp
        go_wp2_with ((go_at_call 85; refine (K2.out _ hS).mono ?_; rintro e w' ⟨rfl, hb'⟩; have hO := hO.more hb'; have hS := hS.on hb'))
        refine hK.out _ _ hS (fun _ => ?_)
        clear hK K
        refine wpAnyH_take (i := 21) (v := ?vL21) rfl (by kernel_rfl) (by kernel_rfl) (by kernel_rfl) (fun _ _ _ h => h) (Or.inl ⟨by rfl, ?hyL21⟩) hS ?restL21
        case hyL21 =>
          intro w hSw
          first | (go_simp; done) | (go_simp; with_reducible rfl)
        try simp only [Act.put, List.setIfInBounds_toArray, List.set_cons_zero, List.set_cons_succ]
        refine wpAnyH_ready (rs := [22]) (by kernel_rfl) (by simp) ?_
        refine AllReadyH.cons rfl (fun K hK => ?_) AllReadyH.nil
        go_simp
        have hSp := hS
        have hS := hS.on (bel_alloc _ (.cells #[.string f.car, .int .i64 f.num, .int .i64 day, .string n.x.f, .string n.x.t, .int .i64 dd, .int .i64 aa, .string n.x.eq] datT))
        refine hK.out _ _ hS (fun _ => ?_)
        clear hK K
        refine wpAnyH_ready (rs := [23]) (by kernel_rfl) (by simp) ?_
        refine AllReadyH.cons rfl (fun K hK => ?_) AllReadyH.nil
        refine step_rapp rtD rfl _ _ rfl hO rfl (bel_alloc _ _) _ (⟨f.car, f.num, day, n.x.f, n.x.t, dd, aa, n.x.eq⟩ : Dt) _ rfl (cs := #[.string f.car, .int .i64 f.num, .int .i64 day, .string n.x.f, .string n.x.t, .int .i64 dd, .int .i64 aa, .string n.x.eq]) rfl (heap_alloc_new _ _) HLL.out ?_
        intro v8 w8 hO8 hC8
        go_simp
        have hS := hSp.trans hC8.but (fun _ _ h => h)
        refine hK.out _ _ hS (fun _ => ?_)
        clear hK K
        refine wpAnyH_take (i := 24) (v := ?vL24) rfl (by kernel_rfl) (by kernel_rfl) (by kernel_rfl) (fun _ _ _ h => h) (Or.inl ⟨by rfl, ?hyL24⟩) hS ?restL24
        case hyL24 =>
          intro w hSw
          first | (go_simp; done) | (go_simp; with_reducible rfl)
        try simp only [Act.put, List.setIfInBounds_toArray, List.set_cons_zero, List.set_cons_succ]
        refine wpAnyH_done (by kernel_rfl) ?_ _
        simp only [List.getElem_toArray, List.getElem_cons_succ, List.getElem_cons_zero, List.set_cons_zero, List.set_cons_succ]
        have HY : Hid (ROwn datT 8 encDt w2.heap.size w8 v8 ((f.lg.take (k + 1)).map (datL p.l f day)) ∧ SW w2 w8) := Lib.hid ⟨by rw [HTk.out]; exact hO8, HSW.out _ hS⟩
        clear hO8 hC8 hS hSp hO
        go_wp2
        go_roundg (f.lg.length - (k + 1))
        case measure => have := HKX.out; omega
        case rel => exact ⟨_, k + 1, rfl, by go_num, by omega, HY⟩
      · have hk : k = f.lg.length := by omega
        have HR : Hid (ROwn datT 8 encDt w.heap.size wr v (f.lg.map (datL p.l f day)) ∧ Below w.heap.size w wr) := Lib.hid ⟨⟨by
          have h := HH.out.1.own
          rw [hk, List.take_length] at h
          exact h.mono hS0.size, Nat.le_trans hS0.size hSr.size⟩, hS0.trans (Below.mono hSr hS0.size)⟩
        clear HH hkx hk
        go_wp2
        exact bodyPost_ret (results_tmp2 rfl _ _ _) rfl ⟨v, by rw [HE.out.1]; rfl, by rw [HE.out.2]; exact HR.out.1, HR.out.2⟩

end Go.Proofs.YtmmpalnalogfnaaGreatDoor
