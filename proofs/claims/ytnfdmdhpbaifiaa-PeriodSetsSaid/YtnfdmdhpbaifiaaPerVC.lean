/- Walk of the law on canonical periods, where the other set is empty. -/
import Derived.Test.YtnfdmdhpbaifiaaPerVA
namespace Go.Proofs.Ytnfdmdhpbaifiaa
open Go.RowKit
set_option linter.unusedSimpArgs false
set_option linter.unusedVariables false

set_option maxRecDepth 100000 in
set_option maxHeartbeats 8000000 in
theorem canon_tf (a b : Per) (w : World) (ha : b643 a) (hb : b643 b) (he : daysQ a ≠ daysQ b) (h1 : (ofQ (daysQ a)).2 = true) (h2 : (ofQ (daysQ b)).2 = false) :
    Calls Try.prog 6 #[encQ a, encQ b] w fun e w' => e = .returned (.bool true) ∧ Below w.heap.size w w' := by
  have C1 := Lib.hid (fun W => normal_any a W)
  have C2 := Lib.hid (fun W => normal_any b W)
  have M1 := Lib.hid (fun W => meet_any a b W)
  have M2 := Lib.hid (fun W => meet_any b a W)
  have M3 := Lib.hid (fun W => meet_any a a W)
  have N4 := Lib.hid (fun W => normal_any (ofQ (daysQ a)).1 W)
  have DA := Lib.hid (fun W => rdays_any a.1 a.2.1 a.2.2 W ha.1.1 ha.1.2)
  have DB := Lib.hid (fun W => rdays_any b.1 b.2.1 b.2.2 W hb.1.1 hb.1.2)
  have CA := Lib.hid (fun W => awake_any W)
  rw [mtQ_comm b a] at M2
  rw [mtQ_self a] at M3
  rw [norm_again a] at N4
  rw [show daysQ (a.1, a.2.1, a.2.2) = daysQ a from rfl] at DA
  rw [show daysQ (b.1, b.2.1, b.2.2) = daysQ b from rfl] at DB
  have hla := daysQ_len a
  have hlb := daysQ_len b
  have CS := Lib.hid (fun va vb W h1 h2 => lawsame_any va vb (daysQ a) (daysQ b) W h1 h2 (by omega) (by omega))
  have hbA := box_first w a (.cells #[.int .i64 b.1, .int .i64 b.2.1, .int .i64 b.2.2] perT)
  have hbB := box_second w (.cells #[.int .i64 a.1, .int .i64 a.2.1, .int .i64 a.2.2] perT) b
  have hb0 : Below w.heap.size w ((w.alloc (.cells #[.int .i64 a.1, .int .i64 a.2.1, .int .i64 a.2.2] perT)).alloc (.cells #[.int .i64 b.1, .int .i64 b.2.1, .int .i64 b.2.2] perT)) := (bel_alloc w _).alloc (by simp) _
  generalize (ofQ (mtQ a b)).1 = qm at *
  generalize (ofQ (mtQ a b)).2 = zm at *
  have HSM : Hid (sameI (daysQ a) (daysQ b) = false) := Lib.hid (by simp only [sameI, decide_eq_false_iff_not]; exact he)
  clear he
  generalize (ofQ (daysQ a)).1 = q1 at *
  generalize (ofQ (daysQ a)).2 = z1 at *
  generalize (ofQ (daysQ b)).1 = q2 at *
  generalize (ofQ (daysQ b)).2 = z2 at *
  generalize daysQ a = la at *
  generalize daysQ b = lb at *
  subst h1 h2
  go_enter Try.func6, Try.ntmps6
  go_wp2_with (go_at_call 18; first
    | (with_reducible refine (C1.out _).mono ?_; rintro e w1 ⟨rfl, hb1⟩; have A1 := (hbA.more hb1).more (bel_alloc w1 (.cells #[.int .i64 q1.1, .int .i64 q1.2.1, .int .i64 q1.2.2] 23)); have B1 := (hbB.more hb1).more (bel_alloc w1 (.cells #[.int .i64 q1.1, .int .i64 q1.2.1, .int .i64 q1.2.2] 23)); have N1 := BoxAt.new w1 q1; have y3 := B1.cell.1; have y4 := B1.cell.2.1; have y5 := B1.cell.2.2)
    | (with_reducible refine (C2.out _).mono ?_; rintro e w2 ⟨rfl, hb2⟩; have A2 := (A1.more hb2).more (bel_alloc w2 (.cells #[.int .i64 q2.1, .int .i64 q2.2.1, .int .i64 q2.2.2] 23)); have B2 := (B1.more hb2).more (bel_alloc w2 (.cells #[.int .i64 q2.1, .int .i64 q2.2.1, .int .i64 q2.2.2] 23)); have N2 := (N1.more hb2).more (bel_alloc w2 (.cells #[.int .i64 q2.1, .int .i64 q2.2.1, .int .i64 q2.2.2] 23)); have P2 := BoxAt.new w2 q2))
  have t1 := below_step hb0 (by simp; omega) hb1 (.cells #[.int .i64 q1.1, .int .i64 q1.2.1, .int .i64 q1.2.2] 23)
  have t2 := below_step t1.1 t1.2 hb2 (.cells #[.int .i64 q2.1, .int .i64 q2.2.1, .int .i64 q2.2.2] 23)
  clear hb0 hb1 hb2 t1 hbA hbB A1 B1 N1 y3 y4 y5 C1 C2
  generalize w1.heap.size = g1 at *
  obtain ⟨g2, hg2⟩ : ∃ g2, g2 = w2.heap.size := ⟨_, rfl⟩
  rw [← hg2] at P2 ⊢
  generalize w2.alloc (.cells #[.int .i64 q2.1, .int .i64 q2.2.1, .int .i64 q2.2.2] 23) = w5 at *
  clear hg2
  have hall : ∀ x ∈ [(w.heap.size, a), (w.heap.size + 1, b), (g1, q1), (g2, q2)], BoxAt w5 x.1 x.2 := by
    intro x hx
    simp only [List.mem_cons, List.not_mem_nil, or_false] at hx
    rcases hx with rfl | rfl | rfl | rfl
    · exact A2
    · exact B2
    · exact N2
    · exact P2
  have hS : SB w5 [(w.heap.size, a), (w.heap.size + 1, b), (g1, q1), (g2, q2)] w5.drew := SB.of hall (Below.refl _ _).drew
  have K1 : Hid (∀ W, SB w5 [(w.heap.size, a), (w.heap.size + 1, b), (g1, q1), (g2, q2)] W → Calls Try.prog 14 #[encQ a] W fun e w' => ∃ v, e = .returned v ∧ IntL w' v la ∧ SB w5 [(w.heap.size, a), (w.heap.size + 1, b), (g1, q1), (g2, q2)] w') :=
    Lib.hid (fun W h => (DA.out W).mono (by rintro e w' ⟨v, rfl, hL, hb⟩; exact ⟨v, rfl, hL, h.more hall hb⟩))
  have K2 : Hid (∀ W, SB w5 [(w.heap.size, a), (w.heap.size + 1, b), (g1, q1), (g2, q2)] W → Calls Try.prog 14 #[encQ b] W fun e w' => ∃ v, e = .returned v ∧ IntL w' v lb ∧ SB w5 [(w.heap.size, a), (w.heap.size + 1, b), (g1, q1), (g2, q2)] w' ∧ Below W.heap.size W w') :=
    Lib.hid (fun W h => (DB.out W).mono (by rintro e w' ⟨v, rfl, hL, hb⟩; exact ⟨v, rfl, hL, h.more hall hb, hb⟩))
  have K3 : Hid (∀ va vb W, IntL W va la → IntL W vb lb → SB w5 [(w.heap.size, a), (w.heap.size + 1, b), (g1, q1), (g2, q2)] W → Calls Try.prog 12 #[va, vb] W fun e w' => e = .returned (.bool false) ∧ SB w5 [(w.heap.size, a), (w.heap.size + 1, b), (g1, q1), (g2, q2)] w') :=
    Lib.hid (fun va vb W h1 h2 h => (CS.out va vb W h1 h2).mono (by rintro e w' ⟨rfl, m, rfl⟩; exact ⟨by rw [HSM.out], h.more hall (bel_self _ _)⟩))
  have u0 := A2.cell
  have u1 := B2.cell
  have u2 := N2.cell
  have u3 := P2.cell
  refine wp_region_held_drew (S := SB w5 [(w.heap.size, a), (w.heap.size + 1, b), (g1, q1), (g2, q2)]) (by kernel_rfl) hS (fun _ => ?_)
  refine wpAnyH_take (i := 0) (v := ?v0) rfl (by kernel_rfl) (by kernel_rfl) (by kernel_rfl) (fun _ _ _ h => h) (Or.inl ⟨by rfl, ?hy0⟩) hS ?rest0
  case hy0 =>
    intro w hSw
    first | (go_simp; done) | (go_simp; with_reducible rfl)
  case rest0 =>
    try simp only [Act.put, List.setIfInBounds_toArray, List.set_cons_zero, List.set_cons_succ]
    refine wpAnyH_take (i := 1) (v := ?v1) rfl (by kernel_rfl) (by kernel_rfl) (by kernel_rfl) (fun _ _ _ h => h) (Or.inl ⟨by rfl, ?hy1⟩) hS ?rest1
    case hy1 =>
      intro w hSw
      first | (go_simp; done) | (go_simp; with_reducible rfl)
    case rest1 =>
      try simp only [Act.put, List.setIfInBounds_toArray, List.set_cons_zero, List.set_cons_succ]
      refine wpAnyH_take (i := 2) (v := ?v2) rfl (by kernel_rfl) (by kernel_rfl) (by kernel_rfl) (fun _ _ _ h => h) (Or.inl ⟨by rfl, ?hy2⟩) hS ?rest2
      case hy2 =>
        intro w hSw
        first | (go_simp; done) | (go_simp; with_reducible rfl)
      case rest2 =>
        try simp only [Act.put, List.setIfInBounds_toArray, List.set_cons_zero, List.set_cons_succ]
        refine wpAnyH_take (i := 3) (v := ?v3) rfl (by kernel_rfl) (by kernel_rfl) (by kernel_rfl) (fun _ _ _ h => h) (Or.inl ⟨by rfl, ?hy3⟩) hS ?rest3
        case hy3 =>
          intro w hSw
          first | (go_simp; done) | (go_simp; with_reducible rfl)
        case rest3 =>
          try simp only [Act.put, List.setIfInBounds_toArray, List.set_cons_zero, List.set_cons_succ]
          refine wpAnyH_take (i := 4) (v := undef) rfl (by kernel_rfl) (by kernel_rfl) (by kernel_rfl) (fun _ _ _ h => h) (Or.inr ⟨by rfl, rfl⟩) hS ?_
          try simp only [Act.put, List.setIfInBounds_toArray, List.set_cons_zero, List.set_cons_succ]
          refine wpAnyH_take (i := 5) (v := undef) rfl (by kernel_rfl) (by kernel_rfl) (by kernel_rfl) (fun _ _ _ h => h) (Or.inr ⟨by rfl, rfl⟩) hS ?_
          try simp only [Act.put, List.setIfInBounds_toArray, List.set_cons_zero, List.set_cons_succ]
          refine wpAnyH_take (i := 6) (v := undef) rfl (by kernel_rfl) (by kernel_rfl) (by kernel_rfl) (fun _ _ _ h => h) (Or.inr ⟨by rfl, rfl⟩) hS ?_
          try simp only [Act.put, List.setIfInBounds_toArray, List.set_cons_zero, List.set_cons_succ]
          refine wpAnyH_take (i := 7) (v := ?v7) rfl (by kernel_rfl) (by kernel_rfl) (by kernel_rfl) (fun _ _ _ h => h) (Or.inl ⟨by rfl, ?hy7⟩) hS ?rest7
          case hy7 =>
            intro w hSw
            first | (go_simp; done) | (go_simp; with_reducible rfl)
          case rest7 =>
            try simp only [Act.put, List.setIfInBounds_toArray, List.set_cons_zero, List.set_cons_succ]
            refine wpAnyH_take (i := 8) (v := ?v8) rfl (by kernel_rfl) (by kernel_rfl) (by kernel_rfl) (fun _ _ _ h => h) (Or.inl ⟨by rfl, ?hy8⟩) hS ?rest8
            case hy8 =>
              intro w hSw
              have k0 := hSw.1; have k1 := hSw.2.1; have k2 := hSw.2.2.1; dsimp only at k0 k1 k2
              first | (go_simp; done) | (go_simp; with_reducible rfl)
            case rest8 =>
              try simp only [Act.put, List.setIfInBounds_toArray, List.set_cons_zero, List.set_cons_succ]
              refine wpAnyH_take (i := 10) (v := ?v10) rfl (by kernel_rfl) (by kernel_rfl) (by kernel_rfl) (fun _ _ _ h => h) (Or.inl ⟨by rfl, ?hy10⟩) hS ?rest10
              case hy10 =>
                intro w hSw
                have k0 := hSw.2.2.2.1; have k1 := hSw.2.2.2.2.1; have k2 := hSw.2.2.2.2.2.1; dsimp only at k0 k1 k2
                first | (go_simp; done) | (go_simp; with_reducible rfl)
              case rest10 =>
                try simp only [Act.put, List.setIfInBounds_toArray, List.set_cons_zero, List.set_cons_succ]
                refine wpAnyH_ready (rs := [9]) (by kernel_rfl) (by simp) ?_
                refine AllReadyH.cons rfl (fun K hK => ?_) AllReadyH.nil
                go_simp
                go_wp2_with (go_at_call 14; refine (K1.out _ hS).mono ?_; rintro e wa ⟨v1, rfl, hL1, hS⟩)
                refine hK.out _ _ hS (fun _ => ?_)
                clear hK K
                refine wpAnyH_ready (rs := [11]) (by kernel_rfl) (by simp) ?_
                refine AllReadyH.cons rfl (fun K hK => ?_) AllReadyH.nil
                go_simp
                go_wp2_with (go_at_call 14; refine (K2.out _ hS).mono ?_; rintro e wb ⟨v2, rfl, hL2, hS, hbb⟩)
                refine hK.out _ _ hS (fun _ => ?_)
                clear hK K
                refine wpAnyH_ready (rs := [12]) (by kernel_rfl) (by simp) ?_
                refine AllReadyH.cons rfl (fun K hK => ?_) AllReadyH.nil
                go_simp
                go_wp2_with (go_at_call 12; refine (K3.out _ _ _ (hL1.more hbb) hL2 hS).mono ?_; rintro e wc ⟨rfl, hS⟩)
                refine hK.out _ _ hS (fun _ => ?_)
                clear hK K
                refine wpAnyH_take (i := 13) (v := ?v13) rfl (by kernel_rfl) (by kernel_rfl) (by kernel_rfl) (fun _ _ _ h => h) (Or.inl ⟨by rfl, ?hy13⟩) hS ?rest13
                case hy13 =>
                  intro w hSw
                  first | (go_simp; done) | (go_simp; with_reducible rfl)
                case rest13 =>
                  try simp only [Act.put, List.setIfInBounds_toArray, List.set_cons_zero, List.set_cons_succ]
                  refine wpAnyH_done (by kernel_rfl) ?_ _
                  all_goals
                    have A3 := A2.more hS.bel
                    have B3 := B2.more hS.bel
                    have N3 := N2.more hS.bel
                    have a0 := A3.cell
                    have b0 := B3.cell
                    have n0 := N3.cell
                    go_wp2_with (first
                      | (go_at_call 20; first
                        | (with_reducible refine (M1.out _).mono ?_; rintro e w6 ⟨rfl, hb6⟩; have A6 := (A3.more hb6).more (bel_alloc w6 (.cells #[.int .i64 qm.1, .int .i64 qm.2.1, .int .i64 qm.2.2] 23)); have B6 := (B3.more hb6).more (bel_alloc w6 (.cells #[.int .i64 qm.1, .int .i64 qm.2.1, .int .i64 qm.2.2] 23)); have N6 := (N3.more hb6).more (bel_alloc w6 (.cells #[.int .i64 qm.1, .int .i64 qm.2.1, .int .i64 qm.2.2] 23)); have a6 := A6.cell; have b6 := B6.cell; have R6 := BoxAt.new w6 qm)
                        | (with_reducible refine (M2.out _).mono ?_; rintro e w7 ⟨rfl, hb7⟩; have A7 := (A6.more hb7).more (bel_alloc w7 (.cells #[.int .i64 qm.1, .int .i64 qm.2.1, .int .i64 qm.2.2] 23)); have N7 := (N6.more hb7).more (bel_alloc w7 (.cells #[.int .i64 qm.1, .int .i64 qm.2.1, .int .i64 qm.2.2] 23)); have R7 := (R6.more hb7).more (bel_alloc w7 (.cells #[.int .i64 qm.1, .int .i64 qm.2.1, .int .i64 qm.2.2] 23)); have a7 := A7.cell; have S7 := BoxAt.new w7 qm)
                        | (with_reducible refine (M3.out _).mono ?_; rintro e w8 ⟨rfl, hb8⟩; have N8 := (N7.more hb8).more (bel_alloc w8 (.cells #[.int .i64 q1.1, .int .i64 q1.2.1, .int .i64 q1.2.2] 23)); have R8 := (R7.more hb8).more (bel_alloc w8 (.cells #[.int .i64 q1.1, .int .i64 q1.2.1, .int .i64 q1.2.2] 23)); have S8 := (S7.more hb8).more (bel_alloc w8 (.cells #[.int .i64 q1.1, .int .i64 q1.2.1, .int .i64 q1.2.2] 23)); have n8 := N8.cell; have T8 := BoxAt.new w8 q1))
                      | (go_at_call 18; refine (N4.out _).mono ?_; rintro e w9 ⟨rfl, hb9⟩; have n9 := ((N8.more hb9).more (bel_alloc w9 (.cells #[.int .i64 q1.1, .int .i64 q1.2.1, .int .i64 q1.2.2] 23))).cell; have r9 := ((R8.more hb9).more (bel_alloc w9 (.cells #[.int .i64 q1.1, .int .i64 q1.2.1, .int .i64 q1.2.2] 23))).cell; have s9 := ((S8.more hb9).more (bel_alloc w9 (.cells #[.int .i64 q1.1, .int .i64 q1.2.1, .int .i64 q1.2.2] 23))).cell; have t9 := ((T8.more hb9).more (bel_alloc w9 (.cells #[.int .i64 q1.1, .int .i64 q1.2.1, .int .i64 q1.2.2] 23))).cell)
                      | (go_at_call 17; refine (CA.out _).mono ?_; rintro e wz ⟨rfl, hbz⟩))
                    go_ret
                    have s5 : Below w.heap.size w _ := t2.1.trans (hS.bel.mono t2.2)
                    have s6 := below_step s5 s5.size hb6 (.cells #[.int .i64 qm.1, .int .i64 qm.2.1, .int .i64 qm.2.2] 23)
                    have s7 := below_step s6.1 s6.2 hb7 (.cells #[.int .i64 qm.1, .int .i64 qm.2.1, .int .i64 qm.2.2] 23)
                    have s8 := below_step s7.1 s7.2 hb8 (.cells #[.int .i64 q1.1, .int .i64 q1.2.1, .int .i64 q1.2.2] 23)
                    have s9 := below_step s8.1 s8.2 hb9 (.cells #[.int .i64 q1.1, .int .i64 q1.2.1, .int .i64 q1.2.2] 23)
                    exact ⟨rfl, s9.1.trans (hbz.mono s9.2)⟩

end Go.Proofs.Ytnfdmdhpbaifiaa
