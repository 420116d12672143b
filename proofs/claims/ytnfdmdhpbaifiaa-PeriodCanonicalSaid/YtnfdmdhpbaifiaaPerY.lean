/- Walk of the law on Normal, Meet and Without. -/
import Derived.Test.YtnfdmdhpbaifiaaPerX
namespace Go.Proofs.Ytnfdmdhpbaifiaa
open Go.RowKit
set_option linter.unusedSimpArgs false
set_option linter.unusedVariables false

/-- boxes and the growth since w5 -/
def SB (w5 : World) : List (Nat × Per) → World → Prop
  | [], W => Below w5.heap.size w5 W
  | x :: r, W => W.cell? ⟨x.1, 0, none⟩ = some (.int .i64 x.2.1) ∧ W.cell? ⟨x.1, 1, none⟩ = some (.int .i64 x.2.2.1) ∧ W.cell? ⟨x.1, 2, none⟩ = some (.int .i64 x.2.2.2) ∧ SB w5 r W
theorem SB.of {w5 : World} : ∀ {L : List (Nat × Per)}, (∀ x ∈ L, BoxAt w5 x.1 x.2) → ∀ {W : World}, Below w5.heap.size w5 W → SB w5 L W
  | [], _, _, hb => hb
  | x :: r, h, W, hb => by
    have h1 := (h x (by simp)).more hb
    exact ⟨h1.cell.1, h1.cell.2.1, h1.cell.2.2, SB.of (fun y hy => h y (List.mem_cons_of_mem _ hy)) hb⟩
theorem SB.bel {w5 : World} : ∀ {L : List (Nat × Per)} {W : World}, SB w5 L W → Below w5.heap.size w5 W
  | [], _, h => h
  | _ :: _, _, h => SB.bel h.2.2.2
theorem SB.more {w5 : World} {L : List (Nat × Per)} (h : ∀ x ∈ L, BoxAt w5 x.1 x.2) {W W' : World} (hs : SB w5 L W) (hb : Below W.heap.size W W') : SB w5 L W' := SB.of h (hs.bel.trans (hb.mono hs.bel.size))
theorem SB.call {w5 : World} {L : List (Nat × Per)} (hL : ∀ x ∈ L, BoxAt w5 x.1 x.2) {f : Nat} {args : Array Value} {R : Ending → Prop} (h : ∀ W, Calls Try.prog f args W fun e w' => R e ∧ Below W.heap.size W w') (W : World) (hb : SB w5 L W) :
    Calls Try.prog f args W fun e w' => R e ∧ SB w5 L w' := (h W).mono (by rintro e w' ⟨he, h⟩; exact ⟨he, hb.more hL h⟩)
theorem below_step {B : Nat} {w W W' : World} (h : Below B w W) (hB : B ≤ W.heap.size) (hb : Below W.heap.size W W') (o : Obj) : Below B w (W'.alloc o) ∧ B ≤ (W'.alloc o).heap.size := by
  have h2 := Nat.le_trans hB hb.size
  exact ⟨(h.trans (hb.mono hB)).alloc h2 o, Nat.le_trans h2 (by simp)⟩
theorem sameP_self (l : List Per) : sameP l l = true := by simp [sameP]

set_option maxRecDepth 100000 in
set_option maxHeartbeats 8000000 in
theorem periodSets_walk (a b : Per) (w : World) (ha : b643 a) :
    Calls Try.prog 4 #[encQ a, encQ b] w fun e w' => e = .returned (.bool true) ∧ Below w.heap.size w w' := by
  have C1 := Lib.hid (fun W => normal_any a W)
  have C2 := Lib.hid (fun W => rnormal_any a.1 a.2.1 a.2.2 W ha.1.1 ha.1.2)
  have C3 := Lib.hid (fun W => meet_any a b W)
  have C4 := Lib.hid (fun W => rmeet_any a b W ha)
  rw [show ofQ (daysQ (a.1, a.2.1, a.2.2)) = ofQ (daysQ a) from rfl] at C2
  have hbA := box_first w a (.cells #[.int .i64 b.1, .int .i64 b.2.1, .int .i64 b.2.2] perT)
  have hbB := box_second w (.cells #[.int .i64 a.1, .int .i64 a.2.1, .int .i64 a.2.2] perT) b
  have hb0 : Below w.heap.size w ((w.alloc (.cells #[.int .i64 a.1, .int .i64 a.2.1, .int .i64 a.2.2] perT)).alloc (.cells #[.int .i64 b.1, .int .i64 b.2.1, .int .i64 b.2.2] perT)) := (bel_alloc w _).alloc (by simp) _
  generalize (ofQ (daysQ a)).1 = q1 at *
  generalize (ofQ (daysQ a)).2 = z1 at *
  generalize (ofQ (mtQ a b)).1 = q2 at *
  generalize (ofQ (mtQ a b)).2 = z2 at *
  go_enter Try.func4, Try.ntmps4
  go_wp2_with (first
    | (go_at_call 18; refine (C1.out _).mono ?_; rintro e w1 ⟨rfl, hb1⟩; have A1 := (hbA.more hb1).more (bel_alloc w1 (.cells #[.int .i64 q1.1, .int .i64 q1.2.1, .int .i64 q1.2.2] perT)); have B1 := (hbB.more hb1).more (bel_alloc w1 (.cells #[.int .i64 q1.1, .int .i64 q1.2.1, .int .i64 q1.2.2] perT)); have N1 : BoxAt (w1.alloc (.cells #[.int .i64 q1.1, .int .i64 q1.2.1, .int .i64 q1.2.2] perT)) w1.heap.size q1 := heap_alloc_new w1 _; have s1 := ((hb0.trans (hb1.mono (by simp; omega))).alloc (Nat.le_trans (by simp; omega) hb1.size) (.cells #[.int .i64 q1.1, .int .i64 q1.2.1, .int .i64 q1.2.2] perT)); have x0 := A1.cell.1; have x1 := A1.cell.2.1; have x2 := A1.cell.2.2)
    | (go_at_call 19; refine (C2.out _).mono ?_; rintro e w2 ⟨rfl, hb2⟩; have A2 := (A1.more hb2).more (bel_alloc w2 (.cells #[.int .i64 q1.1, .int .i64 q1.2.1, .int .i64 q1.2.2] perT)); have B2 := (B1.more hb2).more (bel_alloc w2 (.cells #[.int .i64 q1.1, .int .i64 q1.2.1, .int .i64 q1.2.2] perT)); have N2 := (N1.more hb2).more (bel_alloc w2 (.cells #[.int .i64 q1.1, .int .i64 q1.2.1, .int .i64 q1.2.2] perT)); have M2 : BoxAt (w2.alloc (.cells #[.int .i64 q1.1, .int .i64 q1.2.1, .int .i64 q1.2.2] perT)) w2.heap.size q1 := heap_alloc_new w2 _; have y0 := A2.cell.1; have y1 := A2.cell.2.1; have y2 := A2.cell.2.2; have y3 := B2.cell.1; have y4 := B2.cell.2.1; have y5 := B2.cell.2.2)
    | (go_at_call 20; refine (C3.out _).mono ?_; rintro e w3 ⟨rfl, hb3⟩; have A3 := (A2.more hb3).more (bel_alloc w3 (.cells #[.int .i64 q2.1, .int .i64 q2.2.1, .int .i64 q2.2.2] perT)); have B3 := (B2.more hb3).more (bel_alloc w3 (.cells #[.int .i64 q2.1, .int .i64 q2.2.1, .int .i64 q2.2.2] perT)); have v0 := A3.cell.1; have v1 := A3.cell.2.1; have v2 := A3.cell.2.2; have v3 := B3.cell.1; have v4 := B3.cell.2.1; have v5 := B3.cell.2.2; have P3 : BoxAt (w3.alloc (.cells #[.int .i64 q2.1, .int .i64 q2.2.1, .int .i64 q2.2.2] perT)) w3.heap.size q2 := heap_alloc_new w3 _)
    | (go_at_call 21; refine (C4.out _).mono ?_; rintro e w4 ⟨rfl, hb4⟩))
  have A4 := (A3.more hb4).more (bel_alloc w4 (.cells #[.int .i64 q2.1, .int .i64 q2.2.1, .int .i64 q2.2.2] 23))
  have B4 := (B3.more hb4).more (bel_alloc w4 (.cells #[.int .i64 q2.1, .int .i64 q2.2.1, .int .i64 q2.2.2] 23))
  have N4 := (((N2.more hb3).more (bel_alloc w3 (.cells #[.int .i64 q2.1, .int .i64 q2.2.1, .int .i64 q2.2.2] 23))).more hb4).more (bel_alloc w4 (.cells #[.int .i64 q2.1, .int .i64 q2.2.1, .int .i64 q2.2.2] 23))
  have M4 := (((M2.more hb3).more (bel_alloc w3 (.cells #[.int .i64 q2.1, .int .i64 q2.2.1, .int .i64 q2.2.2] 23))).more hb4).more (bel_alloc w4 (.cells #[.int .i64 q2.1, .int .i64 q2.2.1, .int .i64 q2.2.2] 23))
  have P4 := (P3.more hb4).more (bel_alloc w4 (.cells #[.int .i64 q2.1, .int .i64 q2.2.1, .int .i64 q2.2.2] 23))
  have Q4 : BoxAt (w4.alloc (.cells #[.int .i64 q2.1, .int .i64 q2.2.1, .int .i64 q2.2.2] 23)) w4.heap.size q2 := heap_alloc_new w4 _
  have t1 := below_step hb0 (by simp; omega) hb1 (.cells #[.int .i64 q1.1, .int .i64 q1.2.1, .int .i64 q1.2.2] 23)
  have t2 := below_step t1.1 t1.2 hb2 (.cells #[.int .i64 q1.1, .int .i64 q1.2.1, .int .i64 q1.2.2] 23)
  have t3 := below_step t2.1 t2.2 hb3 (.cells #[.int .i64 q2.1, .int .i64 q2.2.1, .int .i64 q2.2.2] 23)
  have t4 := below_step t3.1 t3.2 hb4 (.cells #[.int .i64 q2.1, .int .i64 q2.2.1, .int .i64 q2.2.2] 23)
  clear hb0 hb1 hb2 hb3 hb4 t1 t2 t3 hbA hbB A1 B1 N1 s1 x0 x1 x2 A2 B2 N2 M2 y0 y1 y2 y3 y4 y5 A3 B3 v0 v1 v2 v3 v4 v5 P3 C1 C2 C3 C4
  generalize w1.heap.size = g1 at *
  generalize w2.heap.size = g2 at *
  generalize w3.heap.size = g3 at *
  obtain ⟨g4, hg4⟩ : ∃ g4, g4 = w4.heap.size := ⟨_, rfl⟩
  rw [← hg4] at Q4 ⊢
  generalize w4.alloc (.cells #[.int .i64 q2.1, .int .i64 q2.2.1, .int .i64 q2.2.2] 23) = w5 at *
  clear hg4
  have hall : ∀ x ∈ [(w.heap.size, a), (w.heap.size + 1, b), (g1, q1), (g2, q1), (g3, q2), (g4, q2)], BoxAt w5 x.1 x.2 := by
    intro x hx
    simp only [List.mem_cons, List.not_mem_nil, or_false] at hx
    rcases hx with rfl | rfl | rfl | rfl | rfl | rfl
    · exact A4
    · exact B4
    · exact N4
    · exact M4
    · exact P4
    · exact Q4
  have hS : SB w5 [(w.heap.size, a), (w.heap.size + 1, b), (g1, q1), (g2, q1), (g3, q2), (g4, q2)] w5.drew := SB.of hall (Below.refl _ _).drew
  have K1 : Hid (∀ W, SB w5 [(w.heap.size, a), (w.heap.size + 1, b), (g1, q1), (g2, q1), (g3, q2), (g4, q2)] W → Calls Try.prog 23 #[encQ a, encQ b] W fun e w' => ∃ v, e = .returned v ∧ PerL w' v (withQ a b) ∧ SB w5 [(w.heap.size, a), (w.heap.size + 1, b), (g1, q1), (g2, q1), (g3, q2), (g4, q2)] w') :=
    Lib.hid (fun W h => (without_any a b W).mono (by rintro e w' ⟨v, rfl, hL, hb⟩; exact ⟨v, rfl, hL, h.more hall hb⟩))
  have K2 : Hid (∀ W, SB w5 [(w.heap.size, a), (w.heap.size + 1, b), (g1, q1), (g2, q1), (g3, q2), (g4, q2)] W → Calls Try.prog 24 #[encQ a, encQ b] W fun e w' => ∃ v, e = .returned v ∧ PerL w' v (withQ a b) ∧ SB w5 [(w.heap.size, a), (w.heap.size + 1, b), (g1, q1), (g2, q1), (g3, q2), (g4, q2)] w' ∧ Below W.heap.size W w') :=
    Lib.hid (fun W h => (rwithout_any a b W ha).mono (by rintro e w' ⟨v, rfl, hL, hb⟩; exact ⟨v, rfl, hL, h.more hall hb, hb⟩))
  have hlen := with_len a b
  have K3 : Hid (∀ va vb W, PerL W va (withQ a b) → PerL W vb (withQ a b) → SB w5 [(w.heap.size, a), (w.heap.size + 1, b), (g1, q1), (g2, q1), (g3, q2), (g4, q2)] W → Calls Try.prog 22 #[va, vb] W fun e w' => e = .returned (.bool true) ∧ SB w5 [(w.heap.size, a), (w.heap.size + 1, b), (g1, q1), (g2, q1), (g3, q2), (g4, q2)] w') :=
    Lib.hid (fun va vb W h1 h2 h => (same_any va vb _ _ W h1 h2 (by omega) (by omega)).mono (by rintro e w' ⟨rfl, m, rfl⟩; exact ⟨by rw [sameP_self], h.more hall (bel_self _ _)⟩))
  have K4 := Lib.hid (SB.call hall (fun W => awake_any W))
  have u0 := A4.cell
  have u1 := B4.cell
  have u2 := N4.cell
  have u3 := M4.cell
  have u4 := P4.cell
  have u5 := Q4.cell
  generalize withQ a b = l at *
  go_region_held3 (fun W => W.cell? ⟨w.heap.size, 0, none⟩ = some (.int .i64 a.1) ∧ W.cell? ⟨w.heap.size, 1, none⟩ = some (.int .i64 a.2.1) ∧ W.cell? ⟨w.heap.size, 2, none⟩ = some (.int .i64 a.2.2) ∧ W.cell? ⟨w.heap.size + 1, 0, none⟩ = some (.int .i64 b.1) ∧ W.cell? ⟨w.heap.size + 1, 1, none⟩ = some (.int .i64 b.2.1) ∧ W.cell? ⟨w.heap.size + 1, 2, none⟩ = some (.int .i64 b.2.2) ∧ W.cell? ⟨g1, 0, none⟩ = some (.int .i64 q1.1) ∧ W.cell? ⟨g1, 1, none⟩ = some (.int .i64 q1.2.1) ∧ W.cell? ⟨g1, 2, none⟩ = some (.int .i64 q1.2.2) ∧ W.cell? ⟨g2, 0, none⟩ = some (.int .i64 q1.1) ∧ W.cell? ⟨g2, 1, none⟩ = some (.int .i64 q1.2.1) ∧ W.cell? ⟨g2, 2, none⟩ = some (.int .i64 q1.2.2) ∧ W.cell? ⟨g3, 0, none⟩ = some (.int .i64 q2.1) ∧ W.cell? ⟨g3, 1, none⟩ = some (.int .i64 q2.2.1) ∧ W.cell? ⟨g3, 2, none⟩ = some (.int .i64 q2.2.2) ∧ W.cell? ⟨g4, 0, none⟩ = some (.int .i64 q2.1) ∧ W.cell? ⟨g4, 1, none⟩ = some (.int .i64 q2.2.1) ∧ W.cell? ⟨g4, 2, none⟩ = some (.int .i64 q2.2.2) ∧ RowKit.Below w5.heap.size w5 W) (exact hS) ((first | (go_at_call 23; refine (K1.out _ hS).mono ?_; rintro e wa ⟨v1, rfl, hL1, hS⟩) | (go_at_call 24; refine (K2.out _ hS).mono ?_; rintro e wb ⟨v2, rfl, hL2, hS, hbb⟩) | (go_at_call 22; refine (K3.out _ _ _ (hL1.more hbb) hL2 hS).mono ?_; rintro e wc ⟨rfl, hS⟩) | (go_at_call 17; refine (K4.out _ hS).mono ?_; rintro e wd ⟨rfl, hS⟩)))
  go_wp2
  go_ret
  exact ⟨rfl, t4.1.trans (hS.bel.mono t4.2)⟩

end Go.Proofs.Ytnfdmdhpbaifiaa
