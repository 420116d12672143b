/- Walk of the law on texts of periods. -/
import Derived.Test.YtnfdmdhpbaifiaaDoorPerUC
import Derived.Test.YtnfdmdhpbaifiaaDoorPerQB
import Derived.Test.YtnfdmdhpbaifiaaDoorPerS
import Derived.Test.YtnfdmdhpbaifiaaDoorPerW
namespace Go.Proofs.YtnfdmdhpbaifiaaDoor
open Go.RowKit
set_option linter.unusedSimpArgs false
set_option linter.unusedVariables false

/-- three boxes and the growth since w5 -/
def SB3 (w5 : World) (i j k : Nat) (p q r : Per) (W : World) : Prop := BoxAt W i p ∧ BoxAt W j q ∧ BoxAt W k r ∧ Below w5.heap.size w5 W
theorem SB3.more {w5 W W' : World} {i j k : Nat} {p q r : Per} (h : SB3 w5 i j k p q r W) (hb : Below W.heap.size W W') : SB3 w5 i j k p q r W' :=
  ⟨h.1.more hb, h.2.1.more hb, h.2.2.1.more hb, h.2.2.2.trans (hb.mono h.2.2.2.size)⟩
theorem SB3.call {w5 : World} {i j k : Nat} {p q r : Per} {f : Nat} {args : Array Value} {R : Ending → Prop} (h : ∀ W, Calls Tryd.prog f args W fun e w' => R e ∧ Below W.heap.size W w') (W : World) (hb : SB3 w5 i j k p q r W) :
    Calls Tryd.prog f args W fun e w' => R e ∧ SB3 w5 i j k p q r w' := (h W).mono (by rintro e w' ⟨he, h⟩; exact ⟨he, hb.more h⟩)
theorem per_len (p : Per) : (perL p).length ≤ 29 := by
  rw [perL]
  split
  · have h1 := print_len10 p.1
    have h2 := print_len10 p.2.1
    have h3 := digTo_len p.2.2.toNat 7
    simp [digL]; omega
  · simp
theorem step_alloc {B : Nat} {w W W' : World} (h : Below B w W) (hB : B ≤ W.heap.size) (hb : Below W.heap.size W W') (o : Obj) : Below B w (W'.alloc o) ∧ B ≤ (W'.alloc o).heap.size := by
  have h2 := Nat.le_trans hB hb.size
  exact ⟨(h.trans (hb.mono hB)).alloc h2 o, Nat.le_trans h2 (by simp)⟩

set_option maxRecDepth 100000 in
set_option maxHeartbeats 8000000 in
theorem periodTexts_walk (p : Per) (s : ByteArray) (w : World) (hE : Env0 w) : Calls Tryd.prog 3 #[encQ p, .string s] w fun e w' => e = .returned (.bool true) ∧ Below w.heap.size w w' := by
  have CA := Lib.hid (fun W => awake_any W)
  have hb0 := bel_alloc w (.cells #[.int .i64 p.1, .int .i64 p.2.1, .int .i64 p.2.2] perT)
  by_cases hs : 200 < s.size
  · have i1 : (200 : Int) < (s.size : Int) := by omega
    go_enter Tryd.func3, Tryd.ntmps3
    go_wp2_with (go_at_call 4; refine (CA.out _).mono ?_; rintro e wz ⟨rfl, hbz⟩)
    go_ret
    exact ⟨rfl, hb0.trans (hbz.mono hb0.size)⟩
  have i1 : ¬ (200 : Int) < (s.size : Int) := by omega
  have hA0 := newBox w p
  have hE0 := hE.more hb0
  obtain ⟨T, hT⟩ : ∃ T, T = mk (perL p) := ⟨_, rfl⟩
  have hTl : T.data.toList = perL p := by rw [hT]
  have hTs : T.size ≤ 1000 := by
    have h := per_len p
    have e : T.size = (perL p).length := by rw [hT]; simp [ByteArray.size]
    omega
  have D1 := Lib.hid (fun W => pprint_any p.1 p.2.1 p.2.2 W)
  have D2 := Lib.hid (fun W => rpprint_any p.1 p.2.1 p.2.2 W)
  rw [show (⟨(perL (p.1, p.2.1, p.2.2)).toArray⟩ : ByteArray) = T from hT.symm] at D1 D2
  have P1 := Lib.hid (fun W hE => pparse_any s W (by omega) hE)
  have P2 := Lib.hid (fun W => rpparse_any s W (by omega))
  have P3 := Lib.hid (fun W hE => pparse_any T W hTs hE)
  have CK := Lib.hid (fun W => rcheck_any p.1 p.2.1 p.2.2 W)
  rw [show errQ (p.1, p.2.1, p.2.2) = errQ p from rfl] at CK
  rw [hTl] at P3
  have D3 : Hid ((perR s.data.toList).2 = 0 → ∀ W, Calls Tryd.prog 7 #[encQ (perR s.data.toList).1] W fun e w' => e = .returned (.string s) ∧ Below W.heap.size W w') := Lib.hid (fun h W => by
    have h1 := pprint_any (perR s.data.toList).1.1 (perR s.data.toList).1.2.1 (perR s.data.toList).1.2.2 W
    rw [show perL ((perR s.data.toList).1.1, (perR s.data.toList).1.2.1, (perR s.data.toList).1.2.2) = perL (perR s.data.toList).1 from rfl, per_back h] at h1
    exact h1)
  have hto : okQ p = true → perR (perL p) = (p, 0) ∧ errQ p = 0 := fun h => ⟨per_print h, errQ_ok h⟩
  have hno : okQ p = false → T.toList = [] ∧ perR (perL p) = ((0, 0, 0), 3) ∧ (errQ p != 0) = true := fun h => by
    have e : perL p = [] := by rw [perL, h]; rfl
    refine ⟨by rw [ByteArray.toList_eq, hTl, e], by rw [e]; exact per_nil, ?_⟩
    rw [bne_iff_ne]; exact errQ_no h
  clear hT hTl hs
  generalize (perR s.data.toList).1 = q at *
  generalize (perR s.data.toList).2 = er at *
  generalize perR (perL p) = pr at *
  have hp := fun (x : Per) => x.1
  clear hp
  cases ho : okQ p
  · obtain ⟨hT0, rfl, hck⟩ := hno ho
    have hts : (T.toList == []) = true := by rw [hT0]; rfl
    clear hno hto hT0 ho
    dsimp only at P3
    go_enter Tryd.func3, Tryd.ntmps3
    go_wp2_with (first
      | (go_at_call 5; with_reducible refine (P1.out _ hE0).mono ?_; rintro e w1 ⟨rfl, hb1⟩; have hA1 := (hA0.more hb1).more (bel_alloc w1 (.cells #[.int .i64 q.1, .int .i64 q.2.1, .int .i64 q.2.2] perT)); have hQ1 := newBox w1 q)
      | (go_at_call 6; refine (P2.out _).mono ?_; rintro e w2 ⟨rfl, hb2⟩; have hA2 := (hA1.more hb2).more (bel_alloc w2 (.cells #[.int .i64 q.1, .int .i64 q.2.1, .int .i64 q.2.2] perT)); have hQ2 := (hQ1.more hb2).more (bel_alloc w2 (.cells #[.int .i64 q.1, .int .i64 q.2.1, .int .i64 q.2.2] perT)); have hX2 := newBox w2 q))
    have t1 := step_alloc hb0 hb0.size hb1 (.cells #[.int .i64 q.1, .int .i64 q.2.1, .int .i64 q.2.2] perT)
    have t2 := step_alloc t1.1 t1.2 hb2 (.cells #[.int .i64 q.1, .int .i64 q.2.1, .int .i64 q.2.2] perT)
    clear t1 hb1 hb2 hA1 hQ1 hA0 hb0 hE0
    generalize w1.heap.size = g1 at *
    obtain ⟨g2, hg2⟩ : ∃ g2, g2 = w2.heap.size := ⟨_, rfl⟩
    rw [← hg2] at hX2 ⊢
    generalize w2.alloc (.cells #[.int .i64 q.1, .int .i64 q.2.1, .int .i64 q.2.2] perT) = w5 at *
    clear hg2
    have hS : SB3 w5 w.heap.size g1 g2 p q q w5.drew := ⟨hA2.more (Below.refl _ _).drew, hQ2.more (Below.refl _ _).drew, hX2.more (Below.refl _ _).drew, (Below.refl _ _).drew⟩
    have a0 : ∀ x : Wd (SB3 w5 w.heap.size g1 g2 p q q), x.w.cell? ⟨w.heap.size, 0, none⟩ = some (.int .i64 p.1) := fun x => x.ok.1.cell.1
    have a1 : ∀ x : Wd (SB3 w5 w.heap.size g1 g2 p q q), x.w.cell? ⟨w.heap.size, 1, none⟩ = some (.int .i64 p.2.1) := fun x => x.ok.1.cell.2.1
    have a2 : ∀ x : Wd (SB3 w5 w.heap.size g1 g2 p q q), x.w.cell? ⟨w.heap.size, 2, none⟩ = some (.int .i64 p.2.2) := fun x => x.ok.1.cell.2.2
    have b0 : ∀ x : Wd (SB3 w5 w.heap.size g1 g2 p q q), x.w.cell? ⟨g1, 0, none⟩ = some (.int .i64 q.1) := fun x => x.ok.2.1.cell.1
    have b1 : ∀ x : Wd (SB3 w5 w.heap.size g1 g2 p q q), x.w.cell? ⟨g1, 1, none⟩ = some (.int .i64 q.2.1) := fun x => x.ok.2.1.cell.2.1
    have b2 : ∀ x : Wd (SB3 w5 w.heap.size g1 g2 p q q), x.w.cell? ⟨g1, 2, none⟩ = some (.int .i64 q.2.2) := fun x => x.ok.2.1.cell.2.2
    have e0 : ∀ x : Wd (SB3 w5 w.heap.size g1 g2 p q q), x.w.cell? ⟨g2, 0, none⟩ = some (.int .i64 q.1) := fun x => x.ok.2.2.1.cell.1
    have e1 : ∀ x : Wd (SB3 w5 w.heap.size g1 g2 p q q), x.w.cell? ⟨g2, 1, none⟩ = some (.int .i64 q.2.1) := fun x => x.ok.2.2.1.cell.2.1
    have e2 : ∀ x : Wd (SB3 w5 w.heap.size g1 g2 p q q), x.w.cell? ⟨g2, 2, none⟩ = some (.int .i64 q.2.2) := fun x => x.ok.2.2.1.cell.2.2
    have K1 := Lib.hid (SB3.call (w5 := w5) (i := w.heap.size) (j := g1) (k := g2) (p := p) (q := q) (r := q) D1.out)
    have K2 := Lib.hid (SB3.call (w5 := w5) (i := w.heap.size) (j := g1) (k := g2) (p := p) (q := q) (r := q) D2.out)
    by_cases her : er = 0
    · have K3 := Lib.hid (SB3.call (w5 := w5) (i := w.heap.size) (j := g1) (k := g2) (p := p) (q := q) (r := q) (D3.out her))
      subst her
      have hNe : Nonempty (Wd (SB3 w5 w.heap.size g1 g2 p q q)) := ⟨⟨_, hS⟩⟩
      refine quietS (S := SB3 w5 w.heap.size g1 g2 p q q) (by kernel_rfl) (by kernel_rfl) (hS) ?_
      repeat (first | go_big_quiet_skip | (go_big_quiet_want; go_big_quiet_op; first | go_big_quiet_on | go_big_quiet_call ((first | (go_at_call 7; first | (with_reducible exact quiet_S (K1.out _ (Wd.ok _))) | (with_reducible exact quiet_S (K3.out _ (Wd.ok _)))) | (go_at_call 8; with_reducible exact quiet_S (K2.out _ (Wd.ok _)))))))
      refine wpQuiet_nil ?_
      rintro W ⟨⟨_, hW⟩, rfl⟩
      have hA := hW.1
      have hB := t2.1.trans (hW.2.2.2.mono t2.2)
      have x0 := hA.cell.1
      have x1 := hA.cell.2.1
      have x2 := hA.cell.2.2
      clear a0 a1 a2 b0 b1 b2 e0 e1 e2 hNe hS
      go_wp2_with (first
        | (go_at_call 7; refine (D1.out _).mono ?_; rintro e w6 ⟨rfl, hb6⟩; have hB := hB.trans (hb6.mono hB.size); have hA := hA.more hb6; have x0 := hA.cell.1; have x1 := hA.cell.2.1; have x2 := hA.cell.2.2)
        | (go_at_call 5; refine (P3.out _ (hE.more hB)).mono ?_; rintro e w7 ⟨rfl, hb7⟩; have hB := (step_alloc hB hB.size hb7 (.cells #[.int .i64 0, .int .i64 0, .int .i64 0] perT)).1; have hA := (hA.more hb7).more (bel_alloc w7 (.cells #[.int .i64 0, .int .i64 0, .int .i64 0] perT)); have x0 := hA.cell.1; have x1 := hA.cell.2.1; have x2 := hA.cell.2.2; have hY := newBox w7 (0, 0, 0); have y0 := hY.cell.1; have y1 := hY.cell.2.1; have y2 := hY.cell.2.2)
        | (go_at_call 9; refine (CK.out _).mono ?_; rintro e w8 ⟨rfl, hb8⟩; have hB := hB.trans (hb8.mono hB.size); have hA := hA.more hb8; have x0 := hA.cell.1; have x1 := hA.cell.2.1; have x2 := hA.cell.2.2; have hY := hY.more hb8; have y0 := hY.cell.1; have y1 := hY.cell.2.1; have y2 := hY.cell.2.2)
        | (go_at_call 4; refine (CA.out _).mono ?_; rintro e wz ⟨rfl, hbz⟩; have hB := hB.trans (hbz.mono hB.size)))
      go_ret
      exact ⟨rfl, hB⟩
    · have her2 : (er == 0) = false := by rw [beq_eq_false_iff_ne]; exact her
      clear her D3
      have hNe : Nonempty (Wd (SB3 w5 w.heap.size g1 g2 p q q)) := ⟨⟨_, hS⟩⟩
      refine quietS (S := SB3 w5 w.heap.size g1 g2 p q q) (by kernel_rfl) (by kernel_rfl) (hS) ?_
      repeat (first | go_big_quiet_skip | (go_big_quiet_want; go_big_quiet_op; first | go_big_quiet_on | go_big_quiet_call ((first | (go_at_call 7; with_reducible exact quiet_S (K1.out _ (Wd.ok _))) | (go_at_call 8; with_reducible exact quiet_S (K2.out _ (Wd.ok _)))))))
      refine wpQuiet_nil ?_
      rintro W ⟨⟨_, hW⟩, rfl⟩
      have hA := hW.1
      have hB := t2.1.trans (hW.2.2.2.mono t2.2)
      have x0 := hA.cell.1
      have x1 := hA.cell.2.1
      have x2 := hA.cell.2.2
      clear a0 a1 a2 b0 b1 b2 e0 e1 e2 hNe hS
      go_wp2_with (first
        | (go_at_call 7; refine (D1.out _).mono ?_; rintro e w6 ⟨rfl, hb6⟩; have hB := hB.trans (hb6.mono hB.size); have hA := hA.more hb6; have x0 := hA.cell.1; have x1 := hA.cell.2.1; have x2 := hA.cell.2.2)
        | (go_at_call 5; refine (P3.out _ (hE.more hB)).mono ?_; rintro e w7 ⟨rfl, hb7⟩; have hB := (step_alloc hB hB.size hb7 (.cells #[.int .i64 0, .int .i64 0, .int .i64 0] perT)).1; have hA := (hA.more hb7).more (bel_alloc w7 (.cells #[.int .i64 0, .int .i64 0, .int .i64 0] perT)); have x0 := hA.cell.1; have x1 := hA.cell.2.1; have x2 := hA.cell.2.2; have hY := newBox w7 (0, 0, 0); have y0 := hY.cell.1; have y1 := hY.cell.2.1; have y2 := hY.cell.2.2)
        | (go_at_call 9; refine (CK.out _).mono ?_; rintro e w8 ⟨rfl, hb8⟩; have hB := hB.trans (hb8.mono hB.size); have hA := hA.more hb8; have x0 := hA.cell.1; have x1 := hA.cell.2.1; have x2 := hA.cell.2.2; have hY := hY.more hb8; have y0 := hY.cell.1; have y1 := hY.cell.2.1; have y2 := hY.cell.2.2)
        | (go_at_call 4; refine (CA.out _).mono ?_; rintro e wz ⟨rfl, hbz⟩; have hB := hB.trans (hbz.mono hB.size)))
      go_ret
      exact ⟨rfl, hB⟩
  · obtain ⟨rfl, hck⟩ := hto ho
    rw [hck] at CK
    clear hno hto ho hck
    dsimp only at P3
    go_enter Tryd.func3, Tryd.ntmps3
    go_wp2_with (first
      | (go_at_call 5; with_reducible refine (P1.out _ hE0).mono ?_; rintro e w1 ⟨rfl, hb1⟩; have hA1 := (hA0.more hb1).more (bel_alloc w1 (.cells #[.int .i64 q.1, .int .i64 q.2.1, .int .i64 q.2.2] perT)); have hQ1 := newBox w1 q)
      | (go_at_call 6; refine (P2.out _).mono ?_; rintro e w2 ⟨rfl, hb2⟩; have hA2 := (hA1.more hb2).more (bel_alloc w2 (.cells #[.int .i64 q.1, .int .i64 q.2.1, .int .i64 q.2.2] perT)); have hQ2 := (hQ1.more hb2).more (bel_alloc w2 (.cells #[.int .i64 q.1, .int .i64 q.2.1, .int .i64 q.2.2] perT)); have hX2 := newBox w2 q))
    have t1 := step_alloc hb0 hb0.size hb1 (.cells #[.int .i64 q.1, .int .i64 q.2.1, .int .i64 q.2.2] perT)
    have t2 := step_alloc t1.1 t1.2 hb2 (.cells #[.int .i64 q.1, .int .i64 q.2.1, .int .i64 q.2.2] perT)
    clear t1 hb1 hb2 hA1 hQ1 hA0 hb0 hE0
    generalize w1.heap.size = g1 at *
    obtain ⟨g2, hg2⟩ : ∃ g2, g2 = w2.heap.size := ⟨_, rfl⟩
    rw [← hg2] at hX2 ⊢
    generalize w2.alloc (.cells #[.int .i64 q.1, .int .i64 q.2.1, .int .i64 q.2.2] perT) = w5 at *
    clear hg2
    have hS : SB3 w5 w.heap.size g1 g2 p q q w5.drew := ⟨hA2.more (Below.refl _ _).drew, hQ2.more (Below.refl _ _).drew, hX2.more (Below.refl _ _).drew, (Below.refl _ _).drew⟩
    have a0 : ∀ x : Wd (SB3 w5 w.heap.size g1 g2 p q q), x.w.cell? ⟨w.heap.size, 0, none⟩ = some (.int .i64 p.1) := fun x => x.ok.1.cell.1
    have a1 : ∀ x : Wd (SB3 w5 w.heap.size g1 g2 p q q), x.w.cell? ⟨w.heap.size, 1, none⟩ = some (.int .i64 p.2.1) := fun x => x.ok.1.cell.2.1
    have a2 : ∀ x : Wd (SB3 w5 w.heap.size g1 g2 p q q), x.w.cell? ⟨w.heap.size, 2, none⟩ = some (.int .i64 p.2.2) := fun x => x.ok.1.cell.2.2
    have b0 : ∀ x : Wd (SB3 w5 w.heap.size g1 g2 p q q), x.w.cell? ⟨g1, 0, none⟩ = some (.int .i64 q.1) := fun x => x.ok.2.1.cell.1
    have b1 : ∀ x : Wd (SB3 w5 w.heap.size g1 g2 p q q), x.w.cell? ⟨g1, 1, none⟩ = some (.int .i64 q.2.1) := fun x => x.ok.2.1.cell.2.1
    have b2 : ∀ x : Wd (SB3 w5 w.heap.size g1 g2 p q q), x.w.cell? ⟨g1, 2, none⟩ = some (.int .i64 q.2.2) := fun x => x.ok.2.1.cell.2.2
    have e0 : ∀ x : Wd (SB3 w5 w.heap.size g1 g2 p q q), x.w.cell? ⟨g2, 0, none⟩ = some (.int .i64 q.1) := fun x => x.ok.2.2.1.cell.1
    have e1 : ∀ x : Wd (SB3 w5 w.heap.size g1 g2 p q q), x.w.cell? ⟨g2, 1, none⟩ = some (.int .i64 q.2.1) := fun x => x.ok.2.2.1.cell.2.1
    have e2 : ∀ x : Wd (SB3 w5 w.heap.size g1 g2 p q q), x.w.cell? ⟨g2, 2, none⟩ = some (.int .i64 q.2.2) := fun x => x.ok.2.2.1.cell.2.2
    have K1 := Lib.hid (SB3.call (w5 := w5) (i := w.heap.size) (j := g1) (k := g2) (p := p) (q := q) (r := q) D1.out)
    have K2 := Lib.hid (SB3.call (w5 := w5) (i := w.heap.size) (j := g1) (k := g2) (p := p) (q := q) (r := q) D2.out)
    by_cases her : er = 0
    · have K3 := Lib.hid (SB3.call (w5 := w5) (i := w.heap.size) (j := g1) (k := g2) (p := p) (q := q) (r := q) (D3.out her))
      subst her
      have hNe : Nonempty (Wd (SB3 w5 w.heap.size g1 g2 p q q)) := ⟨⟨_, hS⟩⟩
      refine quietS (S := SB3 w5 w.heap.size g1 g2 p q q) (by kernel_rfl) (by kernel_rfl) (hS) ?_
      repeat (first | go_big_quiet_skip | (go_big_quiet_want; go_big_quiet_op; first | go_big_quiet_on | go_big_quiet_call ((first | (go_at_call 7; first | (with_reducible exact quiet_S (K1.out _ (Wd.ok _))) | (with_reducible exact quiet_S (K3.out _ (Wd.ok _)))) | (go_at_call 8; with_reducible exact quiet_S (K2.out _ (Wd.ok _)))))))
      refine wpQuiet_nil ?_
      rintro W ⟨⟨_, hW⟩, rfl⟩
      have hA := hW.1
      have hB := t2.1.trans (hW.2.2.2.mono t2.2)
      have x0 := hA.cell.1
      have x1 := hA.cell.2.1
      have x2 := hA.cell.2.2
      clear a0 a1 a2 b0 b1 b2 e0 e1 e2 hNe hS
      go_wp2_with (first
        | (go_at_call 7; refine (D1.out _).mono ?_; rintro e w6 ⟨rfl, hb6⟩; have hB := hB.trans (hb6.mono hB.size); have hA := hA.more hb6; have x0 := hA.cell.1; have x1 := hA.cell.2.1; have x2 := hA.cell.2.2)
        | (go_at_call 5; refine (P3.out _ (hE.more hB)).mono ?_; rintro e w7 ⟨rfl, hb7⟩; have hB := (step_alloc hB hB.size hb7 (.cells #[.int .i64 p.1, .int .i64 p.2.1, .int .i64 p.2.2] perT)).1; have hA := (hA.more hb7).more (bel_alloc w7 (.cells #[.int .i64 p.1, .int .i64 p.2.1, .int .i64 p.2.2] perT)); have x0 := hA.cell.1; have x1 := hA.cell.2.1; have x2 := hA.cell.2.2; have hY := newBox w7 p; have y0 := hY.cell.1; have y1 := hY.cell.2.1; have y2 := hY.cell.2.2)
        | (go_at_call 9; refine (CK.out _).mono ?_; rintro e w8 ⟨rfl, hb8⟩; have hB := hB.trans (hb8.mono hB.size); have hA := hA.more hb8; have x0 := hA.cell.1; have x1 := hA.cell.2.1; have x2 := hA.cell.2.2; have hY := hY.more hb8; have y0 := hY.cell.1; have y1 := hY.cell.2.1; have y2 := hY.cell.2.2)
        | (go_at_call 4; refine (CA.out _).mono ?_; rintro e wz ⟨rfl, hbz⟩; have hB := hB.trans (hbz.mono hB.size)))
      go_ret
      exact ⟨rfl, hB⟩
    · have her2 : (er == 0) = false := by rw [beq_eq_false_iff_ne]; exact her
      clear her D3
      have hNe : Nonempty (Wd (SB3 w5 w.heap.size g1 g2 p q q)) := ⟨⟨_, hS⟩⟩
      refine quietS (S := SB3 w5 w.heap.size g1 g2 p q q) (by kernel_rfl) (by kernel_rfl) (hS) ?_
      repeat (first | go_big_quiet_skip | (go_big_quiet_want; go_big_quiet_op; first | go_big_quiet_on | go_big_quiet_call ((first | (go_at_call 7; with_reducible exact quiet_S (K1.out _ (Wd.ok _))) | (go_at_call 8; with_reducible exact quiet_S (K2.out _ (Wd.ok _)))))))
      refine wpQuiet_nil ?_
      rintro W ⟨⟨_, hW⟩, rfl⟩
      have hA := hW.1
      have hB := t2.1.trans (hW.2.2.2.mono t2.2)
      have x0 := hA.cell.1
      have x1 := hA.cell.2.1
      have x2 := hA.cell.2.2
      clear a0 a1 a2 b0 b1 b2 e0 e1 e2 hNe hS
      go_wp2_with (first
        | (go_at_call 7; refine (D1.out _).mono ?_; rintro e w6 ⟨rfl, hb6⟩; have hB := hB.trans (hb6.mono hB.size); have hA := hA.more hb6; have x0 := hA.cell.1; have x1 := hA.cell.2.1; have x2 := hA.cell.2.2)
        | (go_at_call 5; refine (P3.out _ (hE.more hB)).mono ?_; rintro e w7 ⟨rfl, hb7⟩; have hB := (step_alloc hB hB.size hb7 (.cells #[.int .i64 p.1, .int .i64 p.2.1, .int .i64 p.2.2] perT)).1; have hA := (hA.more hb7).more (bel_alloc w7 (.cells #[.int .i64 p.1, .int .i64 p.2.1, .int .i64 p.2.2] perT)); have x0 := hA.cell.1; have x1 := hA.cell.2.1; have x2 := hA.cell.2.2; have hY := newBox w7 p; have y0 := hY.cell.1; have y1 := hY.cell.2.1; have y2 := hY.cell.2.2)
        | (go_at_call 9; refine (CK.out _).mono ?_; rintro e w8 ⟨rfl, hb8⟩; have hB := hB.trans (hb8.mono hB.size); have hA := hA.more hb8; have x0 := hA.cell.1; have x1 := hA.cell.2.1; have x2 := hA.cell.2.2; have hY := hY.more hb8; have y0 := hY.cell.1; have y1 := hY.cell.2.1; have y2 := hY.cell.2.2)
        | (go_at_call 4; refine (CA.out _).mono ?_; rintro e wz ⟨rfl, hbz⟩; have hB := hB.trans (hbz.mono hB.size)))
      go_ret
      exact ⟨rfl, hB⟩

end Go.Proofs.YtnfdmdhpbaifiaaDoor
