/- Plain facts for the law on canonical periods, and its walk where the sets are equal. -/
import Derived.Test.YtnfdmdhpbaifiaaPerZ
namespace Go.Proofs.Ytnfdmdhpbaifiaa
open Go.RowKit
set_option linter.unusedSimpArgs false
set_option linter.unusedVariables false

theorem BoxAt.new (w : World) (p : Per) : BoxAt (w.alloc (.cells #[.int .i64 p.1, .int .i64 p.2.1, .int .i64 p.2.2] perT)) w.heap.size p := heap_alloc_new w _
theorem ofQ_ne {a b : Per} (h : daysQ a ≠ daysQ b) : (ofQ (daysQ a)).2 ≠ (ofQ (daysQ b)).2 ∨ ((ofQ (daysQ a)).2 = (ofQ (daysQ b)).2 ∧ (ofQ (daysQ a)).1 ≠ (ofQ (daysQ b)).1) := by
  by_cases h2 : (ofQ (daysQ a)).2 = (ofQ (daysQ b)).2
  · exact .inr ⟨h2, fun h1 => h ((canon_iff a b).1 (Prod.ext h1 h2))⟩
  · exact .inl h2
theorem per_ne {p q : Per} (h : p ≠ q) : ¬ p.1 = q.1 ∨ (p.1 = q.1 ∧ ¬ p.2.1 = q.2.1) ∨ (p.1 = q.1 ∧ p.2.1 = q.2.1 ∧ ¬ p.2.2 = q.2.2) := by
  by_cases e1 : p.1 = q.1
  · by_cases e2 : p.2.1 = q.2.1
    · exact .inr (.inr ⟨e1, e2, fun e3 => h (Prod.ext e1 (Prod.ext e2 e3))⟩)
    · exact .inr (.inl ⟨e1, e2⟩)
  · exact .inl e1
theorem norm_again (a : Per) : ofQ (daysQ (ofQ (daysQ a)).1) = ofQ (daysQ a) := by
  show ofQ (daysQ (accQ (daysQ a))) = _
  rw [canon_days]

set_option maxRecDepth 100000 in
set_option maxHeartbeats 8000000 in
theorem canon_eq (a b : Per) (w : World) (ha : b643 a) (hb : b643 b) (he : daysQ a = daysQ b) :
    Calls Try.prog 6 #[encQ a, encQ b] w fun e w' => e = .returned (.bool true) ∧ Below w.heap.size w w' := by
  have C1 := Lib.hid (fun W => normal_any a W)
  have C2 := Lib.hid (fun W => normal_any b W)
  have M1 := Lib.hid (fun W => meet_any a b W)
  have M2 := Lib.hid (fun W => meet_any b a W)
  have M3 := Lib.hid (fun W => meet_any a a W)
  have N4 := Lib.hid (fun W => normal_any (ofQ (daysQ a)).1 W)
  have DA := Lib.hid (fun W => rdays_any a.1 a.2.1 a.2.2 W ha.1.1 ha.1.2)
  have DB := Lib.hid (fun W => rdays_any b.1 b.2.1 b.2.2 W hb.1.1 hb.1.2)
  have CA := Lib.hid (fun W => awake_any W)
  rw [mtQ_comm b a] at M2
  rw [mtQ_self a] at M3
  rw [norm_again a] at N4
  rw [show daysQ (a.1, a.2.1, a.2.2) = daysQ a from rfl] at DA
  rw [show daysQ (b.1, b.2.1, b.2.2) = daysQ b from rfl] at DB
  have hla := daysQ_len a
  have hlb := daysQ_len b
  have CS := Lib.hid (fun va vb W h1 h2 => lawsame_any va vb (daysQ a) (daysQ b) W h1 h2 (by omega) (by omega))
  have hbA := box_first w a (.cells #[.int .i64 b.1, .int .i64 b.2.1, .int .i64 b.2.2] perT)
  have hbB := box_second w (.cells #[.int .i64 a.1, .int .i64 a.2.1, .int .i64 a.2.2] perT) b
  have hb0 : Below w.heap.size w ((w.alloc (.cells #[.int .i64 a.1, .int .i64 a.2.1, .int .i64 a.2.2] perT)).alloc (.cells #[.int .i64 b.1, .int .i64 b.2.1, .int .i64 b.2.2] perT)) := (bel_alloc w _).alloc (by simp) _
  generalize (ofQ (mtQ a b)).1 = qm at *
  generalize (ofQ (mtQ a b)).2 = zm at *
  have HSM : Hid (sameI (daysQ a) (daysQ a) = true) := Lib.hid (sameI_self _)
  rw [← he] at C2 DB CS
  clear he
  generalize (ofQ (daysQ a)).1 = q1 at *
  generalize (ofQ (daysQ a)).2 = z1 at *
  generalize daysQ a = la at *
  go_enter Try.func6, Try.ntmps6
  go_wp2_with (go_at_call 18; first
    | (with_reducible refine (C1.out _).mono ?_; rintro e w1 ⟨rfl, hb1⟩; have A1 := (hbA.more hb1).more (bel_alloc w1 (.cells #[.int .i64 q1.1, .int .i64 q1.2.1, .int .i64 q1.2.2] 23)); have B1 := (hbB.more hb1).more (bel_alloc w1 (.cells #[.int .i64 q1.1, .int .i64 q1.2.1, .int .i64 q1.2.2] 23)); have N1 := BoxAt.new w1 q1; have y3 := B1.cell.1; have y4 := B1.cell.2.1; have y5 := B1.cell.2.2)
    | (with_reducible refine (C2.out _).mono ?_; rintro e w2 ⟨rfl, hb2⟩; have A2 := (A1.more hb2).more (bel_alloc w2 (.cells #[.int .i64 q1.1, .int .i64 q1.2.1, .int .i64 q1.2.2] 23)); have B2 := (B1.more hb2).more (bel_alloc w2 (.cells #[.int .i64 q1.1, .int .i64 q1.2.1, .int .i64 q1.2.2] 23)); have N2 := (N1.more hb2).more (bel_alloc w2 (.cells #[.int .i64 q1.1, .int .i64 q1.2.1, .int .i64 q1.2.2] 23)); have P2 := BoxAt.new w2 q1))
  have t1 := below_step hb0 (by simp; omega) hb1 (.cells #[.int .i64 q1.1, .int .i64 q1.2.1, .int .i64 q1.2.2] 23)
  have t2 := below_step t1.1 t1.2 hb2 (.cells #[.int .i64 q1.1, .int .i64 q1.2.1, .int .i64 q1.2.2] 23)
  clear hb0 hb1 hb2 t1 hbA hbB A1 B1 N1 y3 y4 y5 C1 C2
  generalize w1.heap.size = g1 at *
  obtain ⟨g2, hg2⟩ : ∃ g2, g2 = w2.heap.size := ⟨_, rfl⟩
  rw [← hg2] at P2 ⊢
  generalize w2.alloc (.cells #[.int .i64 q1.1, .int .i64 q1.2.1, .int .i64 q1.2.2] 23) = w5 at *
  clear hg2
  have hall : ∀ x ∈ [(w.heap.size, a), (w.heap.size + 1, b), (g1, q1), (g2, q1)], BoxAt w5 x.1 x.2 := by
    intro x hx
    simp only [List.mem_cons, List.not_mem_nil, or_false] at hx
    rcases hx with rfl | rfl | rfl | rfl
    · exact A2
    · exact B2
    · exact N2
    · exact P2
  have hS : SB w5 [(w.heap.size, a), (w.heap.size + 1, b), (g1, q1), (g2, q1)] w5.drew := SB.of hall (Below.refl _ _).drew
  have K1 : Hid (∀ W, SB w5 [(w.heap.size, a), (w.heap.size + 1, b), (g1, q1), (g2, q1)] W → Calls Try.prog 14 #[encQ a] W fun e w' => ∃ v, e = .returned v ∧ IntL w' v la ∧ SB w5 [(w.heap.size, a), (w.heap.size + 1, b), (g1, q1), (g2, q1)] w') :=
    Lib.hid (fun W h => (DA.out W).mono (by rintro e w' ⟨v, rfl, hL, hb⟩; exact ⟨v, rfl, hL, h.more hall hb⟩))
  have K2 : Hid (∀ W, SB w5 [(w.heap.size, a), (w.heap.size + 1, b), (g1, q1), (g2, q1)] W → Calls Try.prog 14 #[encQ b] W fun e w' => ∃ v, e = .returned v ∧ IntL w' v la ∧ SB w5 [(w.heap.size, a), (w.heap.size + 1, b), (g1, q1), (g2, q1)] w' ∧ Below W.heap.size W w') :=
    Lib.hid (fun W h => (DB.out W).mono (by rintro e w' ⟨v, rfl, hL, hb⟩; exact ⟨v, rfl, hL, h.more hall hb, hb⟩))
  have K3 : Hid (∀ va vb W, IntL W va la → IntL W vb la → SB w5 [(w.heap.size, a), (w.heap.size + 1, b), (g1, q1), (g2, q1)] W → Calls Try.prog 12 #[va, vb] W fun e w' => e = .returned (.bool true) ∧ SB w5 [(w.heap.size, a), (w.heap.size + 1, b), (g1, q1), (g2, q1)] w') :=
    Lib.hid (fun va vb W h1 h2 h => (CS.out va vb W h1 h2).mono (by rintro e w' ⟨rfl, m, rfl⟩; exact ⟨by rw [HSM.out], h.more hall (bel_self _ _)⟩))
  have u0 := A2.cell
  have u1 := B2.cell
  have u2 := N2.cell
  have u3 := P2.cell
  go_region_held3 (fun W => W.cell? ⟨w.heap.size, 0, none⟩ = some (.int .i64 a.1) ∧ W.cell? ⟨w.heap.size, 1, none⟩ = some (.int .i64 a.2.1) ∧ W.cell? ⟨w.heap.size, 2, none⟩ = some (.int .i64 a.2.2) ∧ W.cell? ⟨w.heap.size + 1, 0, none⟩ = some (.int .i64 b.1) ∧ W.cell? ⟨w.heap.size + 1, 1, none⟩ = some (.int .i64 b.2.1) ∧ W.cell? ⟨w.heap.size + 1, 2, none⟩ = some (.int .i64 b.2.2) ∧ W.cell? ⟨g1, 0, none⟩ = some (.int .i64 q1.1) ∧ W.cell? ⟨g1, 1, none⟩ = some (.int .i64 q1.2.1) ∧ W.cell? ⟨g1, 2, none⟩ = some (.int .i64 q1.2.2) ∧ W.cell? ⟨g2, 0, none⟩ = some (.int .i64 q1.1) ∧ W.cell? ⟨g2, 1, none⟩ = some (.int .i64 q1.2.1) ∧ W.cell? ⟨g2, 2, none⟩ = some (.int .i64 q1.2.2) ∧ RowKit.Below w5.heap.size w5 W) (exact hS) ((first | (go_at_call 14; first | (with_reducible refine (K1.out _ hS).mono ?_; rintro e wa ⟨v1, rfl, hL1, hS⟩; have x0 := (A2.more hS.bel).cell; have x1 := (B2.more hS.bel).cell) | (with_reducible refine (K2.out _ hS).mono ?_; rintro e wb ⟨v2, rfl, hL2, hS, hbb⟩)) | (go_at_call 12; refine (K3.out _ _ _ (hL1.more hbb) hL2 hS).mono ?_; rintro e wc ⟨rfl, hS⟩)))
  all_goals
    have A3 := A2.more hS.bel
    have B3 := B2.more hS.bel
    have N3 := N2.more hS.bel
    have a0 := A3.cell
    have b0 := B3.cell
    have n0 := N3.cell
    go_wp2_with (first
      | (go_at_call 20; first
        | (with_reducible refine (M1.out _).mono ?_; rintro e w6 ⟨rfl, hb6⟩; have A6 := (A3.more hb6).more (bel_alloc w6 (.cells #[.int .i64 qm.1, .int .i64 qm.2.1, .int .i64 qm.2.2] 23)); have B6 := (B3.more hb6).more (bel_alloc w6 (.cells #[.int .i64 qm.1, .int .i64 qm.2.1, .int .i64 qm.2.2] 23)); have N6 := (N3.more hb6).more (bel_alloc w6 (.cells #[.int .i64 qm.1, .int .i64 qm.2.1, .int .i64 qm.2.2] 23)); have a6 := A6.cell; have b6 := B6.cell; have R6 := BoxAt.new w6 qm)
        | (with_reducible refine (M2.out _).mono ?_; rintro e w7 ⟨rfl, hb7⟩; have A7 := (A6.more hb7).more (bel_alloc w7 (.cells #[.int .i64 qm.1, .int .i64 qm.2.1, .int .i64 qm.2.2] 23)); have N7 := (N6.more hb7).more (bel_alloc w7 (.cells #[.int .i64 qm.1, .int .i64 qm.2.1, .int .i64 qm.2.2] 23)); have R7 := (R6.more hb7).more (bel_alloc w7 (.cells #[.int .i64 qm.1, .int .i64 qm.2.1, .int .i64 qm.2.2] 23)); have a7 := A7.cell; have S7 := BoxAt.new w7 qm)
        | (with_reducible refine (M3.out _).mono ?_; rintro e w8 ⟨rfl, hb8⟩; have N8 := (N7.more hb8).more (bel_alloc w8 (.cells #[.int .i64 q1.1, .int .i64 q1.2.1, .int .i64 q1.2.2] 23)); have R8 := (R7.more hb8).more (bel_alloc w8 (.cells #[.int .i64 q1.1, .int .i64 q1.2.1, .int .i64 q1.2.2] 23)); have S8 := (S7.more hb8).more (bel_alloc w8 (.cells #[.int .i64 q1.1, .int .i64 q1.2.1, .int .i64 q1.2.2] 23)); have n8 := N8.cell; have T8 := BoxAt.new w8 q1))
      | (go_at_call 18; refine (N4.out _).mono ?_; rintro e w9 ⟨rfl, hb9⟩; have n9 := ((N8.more hb9).more (bel_alloc w9 (.cells #[.int .i64 q1.1, .int .i64 q1.2.1, .int .i64 q1.2.2] 23))).cell; have r9 := ((R8.more hb9).more (bel_alloc w9 (.cells #[.int .i64 q1.1, .int .i64 q1.2.1, .int .i64 q1.2.2] 23))).cell; have s9 := ((S8.more hb9).more (bel_alloc w9 (.cells #[.int .i64 q1.1, .int .i64 q1.2.1, .int .i64 q1.2.2] 23))).cell; have t9 := ((T8.more hb9).more (bel_alloc w9 (.cells #[.int .i64 q1.1, .int .i64 q1.2.1, .int .i64 q1.2.2] 23))).cell)
      | (go_at_call 17; refine (CA.out _).mono ?_; rintro e wz ⟨rfl, hbz⟩))
    go_ret
    have s5 : Below w.heap.size w _ := t2.1.trans (hS.bel.mono t2.2)
    have s6 := below_step s5 s5.size hb6 (.cells #[.int .i64 qm.1, .int .i64 qm.2.1, .int .i64 qm.2.2] 23)
    have s7 := below_step s6.1 s6.2 hb7 (.cells #[.int .i64 qm.1, .int .i64 qm.2.1, .int .i64 qm.2.2] 23)
    have s8 := below_step s7.1 s7.2 hb8 (.cells #[.int .i64 q1.1, .int .i64 q1.2.1, .int .i64 q1.2.2] 23)
    have s9 := below_step s8.1 s8.2 hb9 (.cells #[.int .i64 q1.1, .int .i64 q1.2.1, .int .i64 q1.2.2] 23)
    exact ⟨rfl, s9.1.trans (hbz.mono s9.2)⟩


end Go.Proofs.Ytnfdmdhpbaifiaa
