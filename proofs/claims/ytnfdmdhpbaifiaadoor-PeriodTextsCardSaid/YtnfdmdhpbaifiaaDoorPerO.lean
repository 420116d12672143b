/- Walk of Without. -/
import Derived.Test.YtnfdmdhpbaifiaaDoorPerN
namespace Go.Proofs.YtnfdmdhpbaifiaaDoor
open Go.RowKit
set_option linter.unusedSimpArgs false
set_option linter.unusedVariables false

/-- three boxes and the growth since w4 -/
def B3 (w4 : World) (P Q R : Nat) (a b d : Per) (W : World) : Prop := W.cell? ⟨P, 0, none⟩ = some (.int .i64 a.1) ∧ W.cell? ⟨P, 1, none⟩ = some (.int .i64 a.2.1) ∧ W.cell? ⟨P, 2, none⟩ = some (.int .i64 a.2.2) ∧ W.cell? ⟨Q, 0, none⟩ = some (.int .i64 b.1) ∧ W.cell? ⟨Q, 1, none⟩ = some (.int .i64 b.2.1) ∧ W.cell? ⟨R, 0, none⟩ = some (.int .i64 d.1) ∧ W.cell? ⟨R, 1, none⟩ = some (.int .i64 d.2.1) ∧ W.cell? ⟨R, 2, none⟩ = some (.int .i64 d.2.2) ∧ Below w4.heap.size w4 W
theorem B3.of {w4 : World} {P Q R : Nat} {a b d : Per} (h1 : BoxAt w4 P a) (h2 : BoxAt w4 Q b) (h3 : BoxAt w4 R d) {W : World} (hb : Below w4.heap.size w4 W) : B3 w4 P Q R a b d W :=
  ⟨(h1.more hb).cell.1, (h1.more hb).cell.2.1, (h1.more hb).cell.2.2, (h2.more hb).cell.1, (h2.more hb).cell.2.1, (h3.more hb).cell.1, (h3.more hb).cell.2.1, (h3.more hb).cell.2.2, hb⟩
theorem B3.bel {w4 : World} {P Q R : Nat} {a b d : Per} {W : World} (h : B3 w4 P Q R a b d W) : Below w4.heap.size w4 W := h.2.2.2.2.2.2.2.2

set_option maxRecDepth 100000 in
set_option maxHeartbeats 4000000 in
theorem without_any (a b : Per) (w : World) : Calls Tryd.prog 11 #[encQ a, encQ b] w fun e W' => ∃ v, e = .returned v ∧ PerL W' v (withQ a b) ∧ Below w.heap.size w W' := by
  have CA := Lib.hid (fun W => isValid_any a.1 a.2.1 a.2.2 W)
  have CB := Lib.hid (fun W => isValid_any b.1 b.2.1 b.2.2 W)
  have hbA := box_first w a (.cells #[.int .i64 b.1, .int .i64 b.2.1, .int .i64 b.2.2] perT)
  have hbB := box_second w (.cells #[.int .i64 a.1, .int .i64 a.2.1, .int .i64 a.2.2] perT) b
  have hb0 : Below w.heap.size w ((w.alloc (.cells #[.int .i64 a.1, .int .i64 a.2.1, .int .i64 a.2.2] perT)).alloc (.cells #[.int .i64 b.1, .int .i64 b.2.1, .int .i64 b.2.2] perT)) := (bel_alloc w _).alloc (by simp) _
  cases ha : okQ a
  · have HR := Lib.hid (with_no (b := b) ha)
    rw [show okQ (a.1, a.2.1, a.2.2) = false from ha] at CA
    go_enter Tryd.func11, Tryd.ntmps11
    go_wp2_with (go_at_call 18; refine (CA.out _).mono ?_; rintro e w1 ⟨rfl, hb⟩)
    go_ret
    exact ⟨_, rfl, by rw [HR.out]; exact ⟨none, 0, rfl, .inl rfl⟩, hb0.trans (hb.mono (by simp; omega))⟩
  rw [show okQ (a.1, a.2.1, a.2.2) = true from ha] at CA
  cases hb' : okQ b
  · have HR := Lib.hid (with_one ha hb')
    rw [show okQ (b.1, b.2.1, b.2.2) = false from hb'] at CB
    have CN := Lib.hid (fun W => normals_any _ [a] _ (PerL.lit1 W a) (by simp))
    go_enter Tryd.func11, Tryd.ntmps11
    go_wp2_with (first
      | (go_at_call 18; first | (with_reducible refine (CA.out _).mono ?_; rintro e w1 ⟨rfl, hb⟩; have hB1 := hbB.more hb; have b0 := hB1.cell.1; have b1 := hB1.cell.2.1; have b2 := hB1.cell.2.2) | (with_reducible refine (CB.out _).mono ?_; rintro e w2 ⟨rfl, hb2⟩; have hA2 := (hbA.more hb).more hb2; have a0 := hA2.cell.1; have a1 := hA2.cell.2.1; have a2 := hA2.cell.2.2))
      | (go_at_call 25; refine (CN.out _).mono ?_; rintro e w4 ⟨u, rfl, hL, hb4⟩))
    go_ret
    have hs1 : Below w.heap.size w w1 := hb0.trans (hb.mono (by simp; omega))
    have hs2 := hs1.trans (hb2.mono hs1.size)
    have hs4 := (hs2.alloc hs2.size (.cells #[.int .i64 a.1, .int .i64 a.2.1, .int .i64 a.2.2] 23)).trans (hb4.mono (Nat.le_trans hs2.size (by simp)))
    exact ⟨_, rfl, by rw [HR.out]; exact hL, hs4⟩
  · rw [show okQ (b.1, b.2.1, b.2.2) = true from hb'] at CB
    have HR := Lib.hid (with_three ha hb')
    have hqa := okQ_yes ha
    have hqb := okQ_yes hb'
    have w1' : IntKind.i64.wrap (b.1 - 1) = b.1 - 1 := by rw [IntKind.wrap_i64]; omega
    have w2' : IntKind.i64.wrap (b.2.1 + 1) = b.2.1 + 1 := by rw [IntKind.wrap_i64]; omega
    have CT : Hid (∀ W, Calls Tryd.prog 26 #[encQ a, .int .i64 b.1, .int .i64 b.2.1] W fun e w' => e = .returned (.agg #[.int .i64 (btw a b.1 b.2.1).1, .int .i64 (btw a b.1 b.2.1).2.1, .int .i64 a.2.2]) ∧ Below W.heap.size W w') := Lib.hid (fun W => between_any a.1 a.2.1 a.2.2 b.1 b.2.1 W)
    have HDu : Hid (durQ a b = ((btw a b.1 b.2.1).1, (btw a b.1 b.2.1).2.1, bits .andNot .i64 a.2.2 b.2.2)) := Lib.hid (by rw [andNot_dur ha hb']; rfl)
    rw [HDu.out] at HR
    have C1 := Lib.hid (fun W => between_any a.1 a.2.1 a.2.2 a.1 (b.1 - 1) W)
    have C3 := Lib.hid (fun W => between_any a.1 a.2.1 a.2.2 (b.2.1 + 1) a.2.1 W)
    rw [show btw (a.1, a.2.1, a.2.2) a.1 (b.1 - 1) = btw a a.1 (b.1 - 1) from rfl] at C1
    rw [show btw (a.1, a.2.1, a.2.2) (b.2.1 + 1) a.2.1 = btw a (b.2.1 + 1) a.2.1 from rfl] at C3
    generalize btw a a.1 (b.1 - 1) = q1 at *
    generalize btw a (b.2.1 + 1) a.2.1 = q3 at *
    generalize (btw a b.1 b.2.1).1 = x at *
    generalize (btw a b.1 b.2.1).2.1 = y at *
    obtain ⟨z, hz⟩ : ∃ z, bits .andNot .i64 a.2.2 b.2.2 = z := ⟨_, rfl⟩
    rw [hz] at HR
    clear hqa hqb ha hb' HDu
    go_enter Tryd.func11, Tryd.ntmps11
    go_wp2_with (first
      | (go_at_call 18; first | (with_reducible refine (CA.out _).mono ?_; rintro e w1 ⟨rfl, hb⟩; have hB1 := hbB.more hb; have b0 := hB1.cell.1; have b1 := hB1.cell.2.1; have b2 := hB1.cell.2.2) | (with_reducible refine (CB.out _).mono ?_; rintro e w2 ⟨rfl, hb2⟩; have hA2 := (hbA.more hb).more hb2; have a0 := hA2.cell.1; have a1 := hA2.cell.2.1; have a2 := hA2.cell.2.2; have hB2 := hB1.more hb2; have b0' := hB2.cell.1; have b1' := hB2.cell.2.1; have b2' := hB2.cell.2.2))
      | (go_at_call 26; refine (CT.out _).mono ?_; rintro e w3 ⟨rfl, hb3⟩; have hB3 := (hB2.more hb3).more (bel_alloc w3 (.cells #[.int .i64 x, .int .i64 y, .int .i64 a.2.2] perT)); have b2'' := hB3.cell.2.2))
    have hs1 : Below w.heap.size w w1 := hb0.trans (hb.mono (by simp; omega))
    have hs2 := hs1.trans (hb2.mono hs1.size)
    have hs3 := hs2.trans (hb3.mono hs2.size)
    have hs4 := hs3.alloc hs3.size (.cells #[.int .i64 x, .int .i64 y, .int .i64 z] 23)
    have e1 : BoxAt (w3.alloc (.cells #[.int .i64 x, .int .i64 y, .int .i64 z] 23)) w.heap.size a := (hA2.more hb3).more (bel_alloc _ _)
    have e2 : BoxAt (w3.alloc (.cells #[.int .i64 x, .int .i64 y, .int .i64 z] 23)) (w.heap.size + 1) b := (hB2.more hb3).more (bel_alloc _ _)
    have e3 : BoxAt (w3.alloc (.cells #[.int .i64 x, .int .i64 y, .int .i64 z] 23)) w3.heap.size (x, y, z) := heap_alloc_new w3 _
    obtain ⟨g, hg⟩ : ∃ g, g = w3.heap.size := ⟨_, rfl⟩
    clear hb hb2 hb3 hb0 hbA hbB hA2 hB1 hB2 hB3 a0 a1 a2 b0 b1 b2 b0' b1' b2' b2'' CA CB CT
    generalize hw4 : w3.alloc (.cells #[.int .i64 x, .int .i64 y, .int .i64 z] 23) = w4 at *
    rw [← hg] at e3
    rw [← hg]
    clear hs1 hs2 hs3
    have f0 := e1.cell
    have f1 := e2.cell
    have f2 := e3.cell
    have hS0 : B3 w4 w.heap.size (w.heap.size + 1) g a b (x, y, z) w4.drew := B3.of e1 e2 e3 (Below.refl _ _).drew
    have K1 : Hid (∀ W, B3 w4 w.heap.size (w.heap.size + 1) g a b (x, y, z) W → Calls Tryd.prog 26 #[encQ a, .int .i64 a.1, .int .i64 (b.1 - 1)] W fun e w' => e = .returned (encQ q1) ∧ B3 w4 w.heap.size (w.heap.size + 1) g a b (x, y, z) w') :=
      Lib.hid (fun W h => (C1.out W).mono (by rintro e w' ⟨rfl, hb⟩; exact ⟨rfl, B3.of e1 e2 e3 (h.bel.trans (hb.mono h.bel.size))⟩))
    have K3 : Hid (∀ W, B3 w4 w.heap.size (w.heap.size + 1) g a b (x, y, z) W → Calls Tryd.prog 26 #[encQ a, .int .i64 (b.2.1 + 1), .int .i64 a.2.1] W fun e w' => e = .returned (encQ q3) ∧ B3 w4 w.heap.size (w.heap.size + 1) g a b (x, y, z) w') :=
      Lib.hid (fun W h => (C3.out W).mono (by rintro e w' ⟨rfl, hb⟩; exact ⟨rfl, B3.of e1 e2 e3 (h.bel.trans (hb.mono h.bel.size))⟩))
    have KN := Lib.hid (fun W => normals_any _ [q1, (x, y, z), q3] _ (PerL.lit3 W q1 (x, y, z) q3) (by simp))
    dsimp only at KN
    clear C1 C3 hz w1 w2 hg hw4 w3
    go_region_held3 (fun W => W.cell? ⟨w.heap.size, 0, none⟩ = some (.int .i64 a.1) ∧ W.cell? ⟨w.heap.size, 1, none⟩ = some (.int .i64 a.2.1) ∧ W.cell? ⟨w.heap.size, 2, none⟩ = some (.int .i64 a.2.2) ∧ W.cell? ⟨w.heap.size + 1, 0, none⟩ = some (.int .i64 b.1) ∧ W.cell? ⟨w.heap.size + 1, 1, none⟩ = some (.int .i64 b.2.1) ∧ W.cell? ⟨g, 0, none⟩ = some (.int .i64 x) ∧ W.cell? ⟨g, 1, none⟩ = some (.int .i64 y) ∧ W.cell? ⟨g, 2, none⟩ = some (.int .i64 z) ∧ RowKit.Below w4.heap.size w4 W) (first | exact hS0 | exact hT4 | exact B3.of e1 e2 e3 (hT3.bel.alloc hT3.bel.size _) | exact hT3 | exact hT1 | assumption) ((first
      | (go_at_call 26; first | (with_reducible refine (K1.out _ (by assumption)).mono ?_; rintro e wa ⟨rfl, hT1⟩) | (with_reducible refine (K3.out _ (by assumption)).mono ?_; rintro e wb ⟨rfl, hT3⟩))
      | (go_at_call 25; refine (KN.out _).mono ?_; rintro e wn ⟨u, rfl, hL, hbn⟩; have hT4 := B3.of e1 e2 e3 ((hT3.bel.alloc hT3.bel.size (.cells #[.int .i64 q1.1, .int .i64 q1.2.1, .int .i64 q1.2.2, .int .i64 x, .int .i64 y, .int .i64 z, .int .i64 q3.1, .int .i64 q3.2.1, .int .i64 q3.2.2] 23)).trans (hbn.mono (Nat.le_trans hT3.bel.size (by simp)))))))
    go_wp2
    go_ret
    exact ⟨_, rfl, by rw [HR.out]; exact hL, hs4.trans (hT4.bel.mono hs4.size)⟩

end Go.Proofs.YtnfdmdhpbaifiaaDoor
