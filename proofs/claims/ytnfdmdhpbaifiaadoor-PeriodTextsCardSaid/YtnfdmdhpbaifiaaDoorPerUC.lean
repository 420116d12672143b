/- Walk of the reference's Parse, where the first parts are dates. -/
import Derived.Test.YtnfdmdhpbaifiaaDoorPerUB
namespace Go.Proofs.YtnfdmdhpbaifiaaDoor
open Go.RowKit
set_option linter.unusedSimpArgs false
set_option linter.unusedVariables false

theorem BoxAt.below {W W' : World} {B P : Nat} {p : Per} (h : BoxAt W B p) (hP : B < P) (hb : Below P W W') : BoxAt W' B p := (hb.block B hP).trans h
theorem Parts3.below {w w' : World} {b o P : Nat} {x y z : ByteArray} (h : Parts3 w b o x y z) (hP : b < P) (hP2 : P ≤ w'.heap.size) (hb : Below P w w') : Parts3 w' b o x y z :=
  ⟨Nat.lt_of_lt_of_le hP hP2, (hb.cell (p := ⟨b, o, none⟩) hP).trans h.c0, (hb.cell (p := ⟨b, o + 1, none⟩) hP).trans h.c1, (hb.cell (p := ⟨b, o + 2, none⟩) hP).trans h.c2⟩
theorem per3_c3 {a b c : List UInt8} (h0 : (parseP a).2 = 0) (h1 : (parseP b).2 = 0) (h : dgF 0 c = (0, 3)) : per3 a b c = ((0, 0, 0), 3) := by
  rw [per3_c h0 h1 (by rw [h]; decide), h]
theorem pow_in (j : Nat) (h : j ≤ 6) : 1 ≤ 2 ^ j ∧ 2 ^ j ≤ 64 := by
  have : j = 0 ∨ j = 1 ∨ j = 2 ∨ j = 3 ∨ j = 4 ∨ j = 5 ∨ j = 6 := by omega
  rcases this with rfl | rfl | rfl | rfl | rfl | rfl | rfl <;> decide
/-- the greatest weekday of d is e -/
def topW (d e : Nat) : Prop := (e = 0 ∧ d = 0) ∨ (1 ≤ e ∧ e ≤ 7 ∧ 2 ^ (e - 1) ≤ d ∧ d < 2 ^ e)
theorem top_old {d e n : Nat} (h : topW d e) (h1 : 1 ≤ n) (hn : n ≤ e) : 2 ^ (n - 1) ≤ d := by
  rcases h with ⟨rfl, _⟩ | ⟨_, _, h2, _⟩
  · omega
  · exact Nat.le_trans (Nat.pow_le_pow_right (by omega) (by omega)) h2
theorem top_new {d e n : Nat} (h : topW d e) (hn : e < n) : ¬ 2 ^ (n - 1) ≤ d := by
  rcases h with ⟨rfl, rfl⟩ | ⟨h0, _, _, h3⟩
  · have := Nat.pow_pos (n := n - 1) (show 0 < 2 by omega); omega
  · have := Nat.pow_le_pow_right (n := 2) (by omega) (show e ≤ n - 1 by omega); omega
theorem top_next {d e n : Nat} (h : topW d e) (hn : e < n) (h7 : n ≤ 7) : topW (d + 2 ^ (n - 1)) n := by
  right
  have h1 := top_new h hn
  have h2 : 2 ^ n = 2 * 2 ^ (n - 1) := by rw [show n = (n - 1) + 1 by omega, Nat.pow_succ]; simp; omega
  refine ⟨by omega, h7, by omega, by omega⟩
theorem top_lt {d e : Nat} (h : topW d e) : d < 128 := by
  rcases h with ⟨_, rfl⟩ | ⟨_, h7, _, h3⟩
  · omega
  · have := Nat.pow_le_pow_right (n := 2) (by omega) h7; omega

set_option maxRecDepth 100000 in
set_option maxHeartbeats 4000000 in
theorem rpparse_main (s : ByteArray) (w : World) (hs : s.size ≤ 1000) (x y z : List UInt8) (hxyz : cutL s.data.toList = [x, y, z]) (ea : (parseP x).2 = 0) (eb : (parseP y).2 = 0) :
    Calls Tryd.prog 6 #[.string s] w fun e W' => e = .returned (.tuple #[encQ (perR s.data.toList).1, .int .i64 (perR s.data.toList).2]) ∧ Below w.heap.size w W' := by
  have hbR : BoxAt (w.alloc (.cells #[.int .i64 0, .int .i64 0, .int .i64 0] perT)) w.heap.size (0, 0, 0) := heap_alloc_new w _
  have hb0 : Below w.heap.size w (w.alloc (.cells #[.int .i64 0, .int .i64 0, .int .i64 0] perT)) := bel_alloc w _
  have CS := Lib.hid (rcut_yes s hs hxyz)
  have hl : s.data.toList.length = s.size := by simp
  have lx : x.length ≤ 1000 := by have := cut_part_le s.data.toList x (by rw [hxyz]; simp); omega
  have ly : y.length ≤ 1000 := by have := cut_part_le s.data.toList y (by rw [hxyz]; simp); omega
  have lz : z.length ≤ 1000 := by have := cut_part_le s.data.toList z (by rw [hxyz]; simp); omega
  have CX := Lib.hid (fun W => brparse_any x W lx)
  have CY := Lib.hid (fun W => brparse_any y W ly)
  have HP := perR_three hxyz
  have H3 : Hid (dgF 0 z = (0, 3) → perR s.data.toList = ((0, 0, 0), 3)) := Lib.hid (fun h => HP.trans (per3_c3 ea eb h))
  have HD : Hid (∀ d : Int, dgF 0 z = (d, 0) → errQ ((parseP x).1, (parseP y).1, d) ≠ 0 → perR s.data.toList = ((0, 0, 0), errQ ((parseP x).1, (parseP y).1, d))) := Lib.hid (fun d h he => by
    have h2 : (dgF 0 z).1 = d := by rw [h]
    rw [HP, per3_d ea eb (by rw [h]) (by rw [h2]; exact he), h2])
  have HO : Hid (∀ d : Int, dgF 0 z = (d, 0) → errQ ((parseP x).1, (parseP y).1, d) = 0 → perR s.data.toList = (((parseP x).1, (parseP y).1, d), 0)) := Lib.hid (fun d h he => by
    have h2 : (dgF 0 z).1 = d := by rw [h]
    rw [HP, per3_ok ea eb (by rw [h]) (by rw [h2]; exact he), h2])
  have CK := Lib.hid (fun (d : Int) W => rcheck_any (parseP x).1 (parseP y).1 d W)
  rw [ea] at CX
  rw [eb] at CY
  clear HP ea eb hxyz lx ly
  obtain ⟨Z, hZ⟩ : ∃ Z, Z = mk z := ⟨_, rfl⟩
  have hZ2 : Z.data.toList = z := by rw [hZ]
  have hzs : Z.size ≤ 1000 := by rw [hZ]; exact lz
  rw [← hZ] at CS
  rw [← hZ2] at H3 HD HO
  clear hZ hZ2 lz hl
  generalize (parseP x).1 = f at *
  generalize (parseP y).1 = g at *
  generalize mk x = X at *
  generalize mk y = Y at *
  go_enter Tryd.func6, Tryd.ntmps6
  go_wp2_with (first
      | (go_at_call 16; refine (CS.out _).mono ?_; rintro e w1 ⟨b, o, c, rfl, hP, hb⟩; have hR1 := hbR.more hb; have p0 := hP.c0)
      | (go_at_call 17; first | (with_reducible refine (CX.out _).mono ?_; rintro e w2 ⟨rfl, hb2⟩; have hR2 := hR1.more hb2; have p1 := (hP.more hb2).c1) | (with_reducible refine (CY.out _).mono ?_; rintro e w3 ⟨rfl, hb3⟩; have hR3 := hR2.more hb3; have hP3 := (hP.more hb2).more hb3)))
  have hs1 := hb0.trans (hb.mono (by simp))
  have hs2 := hs1.trans (hb2.mono hs1.size)
  have hs3 := hs2.trans (hb3.mono hs2.size)
  have hRlt := hR3.lt
  have hblt := hP3.lt
  have hsz := hs3.size
  have hR4 := hR3.more (bel_alloc w3 (.cells #[.int .i64 f, .int .i64 g, .int .i64 0] perT))
  have hP4 := hP3.more (bel_alloc w3 (.cells #[.int .i64 f, .int .i64 g, .int .i64 0] perT))
  have hQ4 := newBox w3 (f, g, 0)
  have hs4 := hs3.alloc hsz (.cells #[.int .i64 f, .int .i64 g, .int .i64 0] perT)
  have hgr : w3.heap.size ≤ (w3.alloc (.cells #[.int .i64 f, .int .i64 g, .int .i64 0] perT)).heap.size := by simp
  clear p0 p1 hP hb hb2 hb3 hR1 hR2 hs1 hs2 hs3 hR3 hP3
  obtain ⟨P, hPd⟩ : ∃ P, P = w3.heap.size := ⟨_, rfl⟩
  rw [← hPd] at hQ4 hRlt hblt hsz hgr ⊢
  dsimp only at hQ4
  generalize w3.alloc (.cells #[.int .i64 f, .int .i64 g, .int .i64 0] perT) = wA at *
  clear hPd
  go_loopw [10, 11, 12, 13] (fun vl vu va vi wr => ∃ k d e a u : Nat, k ≤ Z.size ∧ vl = .int .i64 (e : Int) ∧ vu = .int .i64 (u : Int) ∧ va = .int .i64 (a : Int) ∧ vi = .int .i64 (k : Int) ∧ e ≤ 7 ∧ 1 ≤ a ∧ a ≤ 7 ∧ a ≤ e + 1 ∧ (1 ≤ e → a ≤ e) ∧ d < 128 ∧ 1 ≤ u ∧ u ≤ 64 ∧ Hid (u = 2 ^ (a - 1)) ∧ Hid (topW d e) ∧ Hid (dgF 0 Z.data.toList = dgF d (Z.data.toList.drop k)) ∧ BoxAt wr P (f, g, (d : Int)) ∧ Below P wA wr) (fun _ _ _ vi _ => Z.size - (intOf vi).toNat)
  case atStart => exact ⟨0, 0, 0, 1, 1, by omega, rfl, rfl, rfl, rfl, by omega, by omega, by omega, by omega, by omega, by omega, by omega, by omega, Lib.hid rfl, Lib.hid (.inl ⟨rfl, rfl⟩), Lib.hid rfl, hQ4, Below.refl _ _⟩
  case round =>
    obtain ⟨k, d, e, a, u, hk, rfl, rfl, rfl, rfl, he7, ha1, ha7, hae, hae2, hd, hu1, hu64, HU, HT, HG, hQ, hbP⟩ := hrel
    have hPr := hP4.below hblt (Nat.le_trans hgr hbP.size) hbP
    have hRr := hR4.below hRlt hbP
    have hwr := hs4.trans (hbP.mono hsz)
    have p2 := hPr.c2
    have c0 := hRr.cell.1
    have c1 := hRr.cell.2.1
    have c2 := hRr.cell.2.2
    have f0 := hRr.frozen 0
    have f1 := hRr.frozen 1
    have f2 := hRr.frozen 2
    by_cases hlt : k < Z.size
    · have i1 : (k : Int) < (Z.size : Int) := by omega
      have HA := Lib.hid (at_byte Z k hlt)
      by_cases c1' : (Z[k].toNat : Int) - 48 ≤ (e : Int)
      · have HR : Hid (perR s.data.toList = ((0, 0, 0), 3)) := Lib.hid (H3.out (by
          rw [HG.out, HA.out]
          by_cases h9 : (Z[k].toNat : Int) < 49
          · exact dg_low h9
          · have h := top_old HT.out (n := Z[k].toNat - 48) (by omega) (by omega)
            exact dg_old (by rw [show Z[k].toNat - 49 = Z[k].toNat - 48 - 1 by omega]; exact h)))
        clear HG HA HT HU
        go_wp2
        obtain ⟨h1, h2⟩ := hRr.result (0, 0, 0) (by omega) hwr
        obtain ⟨d0, d1, d2⟩ := h1.cell
        refine bodyPost_ret (v := .tuple #[encQ (0, 0, 0), .int .i64 3]) ?_ rfl ⟨by rw [HR.out], h2⟩
        simp [results, Tryd.results6, go_sem, d0, d1, d2]
      obtain ⟨n, hn⟩ : ∃ n : Nat, Z[k].toNat = n + 48 := ⟨Z[k].toNat - 48, by omega⟩
      have cn : (Z[k].toNat : Int) = (n : Int) + 48 := by omega
      have nb : n ≤ 207 := by have := UInt8.toNat_lt Z[k]; omega
      have en : e < n := by omega
      have q1 : ¬ (n : Int) ≤ (e : Int) := by omega
      by_cases c2' : 7 < n
      · have HR : Hid (perR s.data.toList = ((0, 0, 0), 3)) := Lib.hid (H3.out (by rw [HG.out, HA.out]; exact dg_high (by omega)))
        have q2 : (7 : Int) < (n : Int) := by omega
        clear HG HA HT HU c1' hn
        go_wp2
        obtain ⟨h1, h2⟩ := hRr.result (0, 0, 0) (by omega) hwr
        obtain ⟨d0, d1, d2⟩ := h1.cell
        refine bodyPost_ret (v := .tuple #[encQ (0, 0, 0), .int .i64 3]) ?_ rfl ⟨by rw [HR.out], h2⟩
        simp [results, Tryd.results6, go_sem, d0, d1, d2]
      have HG2 : Hid (dgF 0 Z.data.toList = dgF (d + 2 ^ (n - 1)) (Z.data.toList.drop (k + 1))) := Lib.hid (by
        rw [HG.out, HA.out, dg_next (by omega) (by omega) (by rw [show Z[k].toNat - 49 = n - 1 by omega]; exact top_new HT.out en), show Z[k].toNat - 49 = n - 1 by omega])
      have HT2 := Lib.hid (top_next HT.out en (by omega))
      have q2 : ¬ (7 : Int) < (n : Int) := by omega
      have an : a ≤ n := by omega
      clear HG HA HT c1' hn
      have n7 : n ≤ 7 := by omega
      have k2 := hQ.cell.2.2
      have g2 := hQ.frozen 2
      dsimp only at k2
      go_wp2
      go_loop [11, 12] (fun vu va => ∃ a u : Nat, vu = .int .i64 (u : Int) ∧ va = .int .i64 (a : Int) ∧ 1 ≤ a ∧ a ≤ n ∧ 1 ≤ u ∧ u ≤ 64 ∧ Hid (u = 2 ^ (a - 1))) (fun _ va => n - (intOf va).toNat)
      case atStart => exact ⟨a, u, rfl, rfl, ha1, an, hu1, hu64, HU⟩
      case round =>
        obtain ⟨a2, u2, rfl, rfl, ka1, kan, ku1, ku2, KU⟩ := hrel
        by_cases hl2 : a2 < n
        · have j1 : (a2 : Int) < (n : Int) := by omega
          have KU2 : Hid (2 * u2 = 2 ^ (a2 + 1 - 1)) := Lib.hid (by rw [KU.out, show a2 + 1 - 1 = (a2 - 1) + 1 by omega, Nat.pow_succ, Nat.mul_comm])
          have ku3 : 2 * u2 ≤ 64 := by have h := (pow_in (a2 + 1 - 1) (by omega)).2; rw [KU2.out]; exact h
          clear KU
          go_wp2
          go_round
          case rel => exact ⟨a2 + 1, 2 * u2, by go_num, by go_num, by omega, by omega, by omega, ku3, KU2⟩
          case measure => simp [intOf]; omega
        · have e2 : a2 = n := by omega
          subst e2
          have HG3 : Hid (dgF 0 Z.data.toList = dgF (d + u2) (Z.data.toList.drop (k + 1))) := Lib.hid (by rw [KU.out]; exact HG2.out)
          have HT3 : Hid (topW (d + u2) a2) := Lib.hid (by rw [KU.out]; exact HT2.out)
          have hd3 := top_lt HT3.out
          have hQ3 := hQ.set2 ((d : Int) + (u2 : Int))
          have hb3 := hbP.setCell (p := ⟨P, 2, none⟩) (Nat.le_refl _) (.int .i64 ((d : Int) + (u2 : Int)))
          clear HG2 HT2
          go_wp2
          go_roundw
          case rel => exact ⟨k + 1, d + u2, a2, a2, u2, by omega, rfl, rfl, rfl, by go_num, n7, ka1, n7, by omega, by omega, hd3, ku1, ku2, KU, HT3, HG3, by first | exact hQ3 | (have h := hQ3; rw [← Int.natCast_add] at h; exact h), hb3⟩
          case measure => simp [intOf]; omega
    · have e' : k = Z.size := by omega
      subst e'
      have HE : Hid (dgF 0 Z.data.toList = dgF d []) := Lib.hid (by rw [HG.out, List.drop_eq_nil_of_le (by simp)])
      clear HG
      by_cases hz : e = 0
      · subst hz
        have hd0 : d = 0 := by
          rcases HT.out with ⟨_, h⟩ | ⟨h, _⟩
          · exact h
          · omega
        have HR : Hid (perR s.data.toList = ((0, 0, 0), 3)) := Lib.hid (H3.out (by rw [HE.out, hd0]; rfl))
        clear HE HT HU hd0
        go_wp2
        obtain ⟨h1, h2⟩ := hRr.result (0, 0, 0) (by omega) hwr
        obtain ⟨d0, d1, d2⟩ := h1.cell
        refine bodyPost_ret (v := .tuple #[encQ (0, 0, 0), .int .i64 3]) ?_ rfl ⟨by rw [HR.out], h2⟩
        simp [results, Tryd.results6, go_sem, d0, d1, d2]
      have hdn : d ≠ 0 := by
        rcases HT.out with ⟨h, _⟩ | ⟨h0, _, h, _⟩
        · omega
        · have := Nat.pow_pos (n := e - 1) (show 0 < 2 by omega); omega
      have HE2 : Hid (dgF 0 Z.data.toList = ((d : Int), 0)) := Lib.hid (by rw [HE.out, dgF, if_neg hdn])
      have q1 : ((e : Int) == 0) = false := by rw [beq_eq_false_iff_ne]; omega
      have v0 := hQ.cell.1
      have v1 := hQ.cell.2.1
      have v2 := hQ.cell.2.2
      have CK2 := Lib.hid (fun W => CK.out (d : Int) W)
      by_cases ed : errQ (f, g, (d : Int)) = 0
      · have HR := Lib.hid (HO.out _ HE2.out ed)
        rw [ed] at CK2
        clear HE HT HU hz hdn HE2 ed
        go_wp2_with (go_at_call 9; refine (CK2.out _).mono ?_; rintro e w5 ⟨rfl, hb5⟩; have hR5 := hRr.more hb5; have hQ5 := hQ.more hb5; have v0 := hQ5.cell.1; have v1 := hQ5.cell.2.1; have v2 := hQ5.cell.2.2; have c0 := hR5.cell.1; have c1 := hR5.cell.2.1; have c2 := hR5.cell.2.2; have f0 := hR5.frozen 0; have f1 := hR5.frozen 1; have f2 := hR5.frozen 2)
        obtain ⟨h1, h2⟩ := hR5.result (f, g, (d : Int)) (by omega) (hwr.trans (hb5.mono hwr.size))
        obtain ⟨d0, d1, d2⟩ := h1.cell
        refine bodyPost_ret (v := .tuple #[encQ (f, g, (d : Int)), .int .i64 0]) ?_ rfl ⟨by rw [HR.out], h2⟩
        simp [results, Tryd.results6, go_sem, d0, d1, d2]
      · have HR := Lib.hid (HD.out _ HE2.out ed)
        have t2 := ne_true ed
        clear HE HT HU hz hdn HE2 ed
        generalize errQ (f, g, (d : Int)) = er at *
        go_wp2_with (go_at_call 9; refine (CK2.out _).mono ?_; rintro e w5 ⟨rfl, hb5⟩; have hwr := hwr.trans (hb5.mono hwr.size); have hRr := hRr.more hb5; have hQ := hQ.more hb5; have v0 := hQ.cell.1; have v1 := hQ.cell.2.1; have v2 := hQ.cell.2.2; have c0 := hRr.cell.1; have c1 := hRr.cell.2.1; have c2 := hRr.cell.2.2; have f0 := hRr.frozen 0; have f1 := hRr.frozen 1; have f2 := hRr.frozen 2)
        obtain ⟨h1, h2⟩ := hRr.result (0, 0, 0) (by omega) hwr
        obtain ⟨d0, d1, d2⟩ := h1.cell
        refine bodyPost_ret (v := .tuple #[encQ (0, 0, 0), .int .i64 er]) ?_ rfl ⟨by rw [HR.out], h2⟩
        simp [results, Tryd.results6, go_sem, d0, d1, d2]

theorem rpparse_any (s : ByteArray) (w : World) (hs : s.size ≤ 1000) : Calls Tryd.prog 6 #[.string s] w fun e W' => e = .returned (.tuple #[encQ (perR s.data.toList).1, .int .i64 (perR s.data.toList).2]) ∧ Below w.heap.size w W' := by
  by_cases h : ∃ x y z, cutL s.data.toList = [x, y, z] ∧ (parseP x).2 = 0 ∧ (parseP y).2 = 0
  · obtain ⟨x, y, z, h, ea, eb⟩ := h
    exact rpparse_main s w hs x y z h ea eb
  · exact rpparse_head s w hs (fun x y z h1 h2 h3 => h ⟨x, y, z, h1, h2, h3⟩)

end Go.Proofs.YtnfdmdhpbaifiaaDoor
