/- The library's stable sort, walked: symMergeCmpFunc makes one sorted row of two, at all lengths. -/
import Derived.Test.YtalnocdgmcchaaaDoorSortC
import Derived.Deep.CutRange
namespace Go.Proofs.YtalnocdgmcchaaaDoor
open Go.Shelf Go.RowKit Go.Lib Go.Sort
set_option linter.unusedSimpArgs false
set_option linter.unusedVariables false
variable {α : Type} [Inhabited α]

/-- the call on any two rows that lie beside one another, at most N places -/
def Merges (enc : α → Value) (tot : α → α → Bool) (lo : α → α → Prop) (g : Nat) (cb : Array Value) (blk off cap : Nat) (d0 : Array α) (w0 : World) (N : Nat) : Prop :=
  ∀ (a m b : Nat) (d : Array α) (w : World), b - a ≤ N → a < m → m < b → b ≤ d.size → d.size < 4611686018427387904 → d0.size = d.size → SW enc w0 blk off d w → Halves tot lo a m b d →
    Calls Tryd.prog 66 #[.slice (some ⟨blk, off, none⟩) d.size cap, .int .i64 a, .int .i64 m, .int .i64 b, .func (.func g) #[] cb] w
      (Left enc w0 blk off fun d' => PermIn a b d d' ∧ SortedIn tot a b d')

/-- the binary search for the cut -/
structure Seek (tot : α → α → Bool) (d : Array α) (p s0 r0 s r : Nat) : Prop where
  low : s = s0 ∨ tot d[p - (s - 1)]! d[s - 1]! = false
  high : r = r0 ∨ tot d[p - r]! d[r]! = true

theorem Seek.cut {tot : α → α → Bool} {d : Array α} {a m b mid s s0 r0 : Nat} (h : Seek tot d (mid + m - 1) s0 r0 s s) (ham : a < m) (hmb : m < b) (hmid : mid = (a + b) / 2)
    (h0 : (mid < m ∧ s0 + b = mid + m ∧ r0 = mid) ∨ (m ≤ mid ∧ s0 = a ∧ r0 = m)) (hs1 : s0 ≤ s) (hs2 : s ≤ r0) : Cutt tot a m b mid s (mid + m - s) d := by
  refine ⟨by omega, by omega, by omega, by omega, by omega, ?_, ?_⟩
  · rcases h.low with hl | hl
    · rcases h0 with h0 | h0
      · exact Or.inr (Or.inl (by omega))
      · exact Or.inl (by omega)
    · by_cases hs : s = s0
      · rcases h0 with h0 | h0
        · exact Or.inr (Or.inl (by omega))
        · exact Or.inl (by omega)
      · rw [show mid + m - 1 - (s - 1) = mid + m - s by omega] at hl
        exact Or.inr (Or.inr hl)
  · rcases h.high with hl | hl
    · rcases h0 with h0 | h0
      · exact Or.inr (Or.inl (by omega))
      · exact Or.inl (by omega)
    · by_cases hs : s = r0
      · rcases h0 with h0 | h0
        · exact Or.inr (Or.inl (by omega))
        · exact Or.inl (by omega)
      · rw [show mid + m - 1 - s = mid + m - s - 1 by omega] at hl
        exact Or.inr (Or.inr hl)

set_option maxHeartbeats 8000000 in
set_option maxRecDepth 100000 in
theorem symMerge_main (enc : α → Value) (cf : α → α → Int) (tot : α → α → Bool) (lo : α → α → Prop) (O : Ordd (ltOf cf) tot lo) (g : Nat) (cb : Array Value) (blk off cap a m b : Nat) (d0 d : Array α) (w0 w : World)
    (eg : ∀ args w, (callFunc g args).run Tryd.prog w = .ok (.enter g args) w) (hcmp : CmpLays1 Tryd.prog g cb enc cf blk off d0.size w0) (R : Row1 enc w0 blk off d0)
    (hs : d0.size = d.size) (S : SW enc w0 blk off d w) (ham : a + 1 < m) (hmb : m + 1 < b) (hb : b ≤ d.size) (hsz : d.size < 4611686018427387904) (H : Halves tot lo a m b d)
    (IH : Merges enc tot lo g cb blk off cap d0 w0 (b - a - 1)) :
    Calls Tryd.prog 66 #[.slice (some ⟨blk, off, none⟩) d.size cap, .int .i64 a, .int .i64 m, .int .i64 b, .func (.func g) #[] cb] w
      (Left enc w0 blk off fun d' => PermIn a b d d' ∧ SortedIn tot a b d') := by
  have mixed : Tryd.prog.follows .mixedOrders = true := by kernel_rfl
  have hcl0 := R.hO.cells
  simp only [Value.cells] at hcl0
  have hst := R.hO.store Tryd.prog
  have S0 : Aside (SW enc w0 blk off d w) := S
  have HC : Aside _ := hcmp
  have HH := Lib.hid H
  have HI := Lib.hid IH
  clear S hcmp H IH
  have hm1 : ((m : Int) - (a : Int) == 1) = false := by rw [beq_eq_false_iff_ne]; omega
  have hm4 : ((b : Int) - (m : Int) == 1) = false := by rw [beq_eq_false_iff_ne]; omega
  obtain ⟨mid, hmid⟩ : ∃ q : Nat, q = (a + b) / 2 := ⟨_, rfl⟩
  have hq : ((a : Int) + (b : Int)) / 2 = (mid : Int) := by omega
  have Hmid := Lib.hid hmid
  have hb1 : a < mid := by omega
  have hb2 : mid < b := by omega
  clear hmid hq
  obtain ⟨s0, r0, h0⟩ : ∃ s0 r0 : Nat, (mid < m ∧ s0 + b = mid + m ∧ r0 = mid) ∨ (m ≤ mid ∧ s0 = a ∧ r0 = m) := by
    by_cases h : mid < m
    · exact ⟨mid + m - b, mid, Or.inl ⟨h, by have := Hmid.out; omega, rfl⟩⟩
    · exact ⟨a, m, Or.inr ⟨by omega, rfl, rfl⟩⟩
  have H0 := Lib.hid h0
  have hs0 : a ≤ s0 := by have := Hmid.out; omega
  have hr0 : r0 ≤ m := by omega
  have hr1 : r0 ≤ mid := by omega
  have hs2 : mid + m ≤ s0 + b := by have := Hmid.out; omega
  have hs3 : s0 ≤ r0 := by have := Hmid.out; omega
  have hq : ((a : Int) + (b : Int)) / 2 = (mid : Int) := by have := Hmid.out; omega
  have hk0 : (mid < m ∧ s0 + b = mid + m) ∨ (m ≤ mid ∧ s0 = a) := by omega
  have Hq := Lib.hid hq
  rcases h0 with ⟨h1, h2, h3⟩ | ⟨h1, h2, h3⟩
  all_goals
    have g2 := Lib.hid h2
    have g3 := Lib.hid h3
    clear h2 h3 hk0
    have z1 : decide (mid < m) = true ∨ decide (mid < m) = false := by cases decide (mid < m) <;> simp
    have z2 : decide ((m : Int) > (mid : Int)) = decide (mid < m) := by simp
    have z3 : decide ((mid : Int) < (m : Int)) = decide (mid < m) := by simp
    rcases z1 with z1 | z1
    all_goals (first | (exfalso; simp at z1; omega) | skip)
    rw [z1] at z2 z3
    go_enter Tryd.func66, Tryd.ntmps66
    go_wp2
    go_loopg [20, 21, 23] (r0 - s0) (fun g1 vi vj vh wr => ∃ (i j : Nat), vi = .int .i64 i ∧ vj = .int .i64 j ∧ s0 ≤ i ∧ i ≤ j ∧ j ≤ r0 ∧ j - i ≤ g1 ∧ Aside (SW enc w0 blk off d wr) ∧ Hid (Seek tot d (mid + m - 1) s0 r0 i j))
    case atStart => exact ⟨s0, r0, (by congr 1; have := g2.out; omega), (by congr 1; have := g3.out; omega), Nat.le_refl _, hs3, Nat.le_refl _, Nat.le_refl _, S0, Lib.hid ⟨Or.inl rfl, Or.inl rfl⟩⟩
    case round =>
      clear S0
      obtain ⟨i, j, rfl, rfl, hai, hij, hjb, hg1, S1, HL⟩ := hrel
      by_cases hlt : i < j
      · have hltz : (i : Int) < (j : Int) := by omega
        obtain ⟨h, hh⟩ : ∃ h : Nat, h = (i + j) / 2 := ⟨_, rfl⟩
        have k1 : i ≤ h := by omega
        have k2 : h < j := by omega
        obtain ⟨q, hq2⟩ : ∃ q : Nat, q = mid + m - 1 - h := ⟨_, rfl⟩
        have hk := test_lt O (HH.out.asc h q (by omega) (by omega) (by omega) (by omega))
        have ea : (((i : Int) + (j : Int)) / 2).toNat = h := by omega
        have pa : (0 : Int) ≤ ((i : Int) + (j : Int)) / 2 := by omega
        have ba : ((i : Int) + (j : Int)) / 2 < (d.size : Int) := by omega
        have ra : IntKind.i64.wrap ((mid : Int) + (m : Int) - 1 - ((i : Int) + (j : Int)) / 2) = (q : Int) := by rw [IntKind.wrap_i64]; omega
        have rb : (mid : Int) + (m : Int) - 1 - ((i : Int) + (j : Int)) / 2 = (q : Int) := by omega
        have bc : (q : Int) < (d.size : Int) := by omega
        have rc : IntKind.i64.wrap (q : Int) = (q : Int) := by rw [IntKind.wrap_i64]; omega
        have l1 := S1.out.cl R (by omega) h (by omega)
        have l2 := S1.out.cl R (by omega) q (by omega)
        obtain ⟨x, hx⟩ : ∃ x, x = d[h]! := ⟨_, rfl⟩
        obtain ⟨y, hy⟩ : ∃ x, x = d[q]! := ⟨_, rfl⟩
        rw [← hx] at l1
        rw [← hy] at l2
        have hc := S1.out.cmp HC.out (by omega) y x
        have Hq2 := Lib.hid hq2
        cases hv : tot d[q]! d[h]!
        · have hd1 : decide (cf y x < 0) = false := by rw [hx, hy, hk]; exact hv
          have hd2 : ¬ cf y x < 0 := of_decide_eq_false hd1
          have HV := Lib.hid hv
          have Heh := Lib.hid ea
          clear hx hy hh hv hk hq2 Hq
          go_wp2_with fail
          go_quiet_grown (first | (go_at_fn g; refine Calls.grown_of (hc _ _)))
          have S2 : Aside (SW enc w0 blk off d (grow (wr.drewN nq) osq)) := S1.out.grown nq osq
          clear l1 l2 hc S1
          generalize grow (wr.drewN nq) osq = w2 at S2 ⊢
          clear nq osq
          clear ea ra rb rc
          go_wp2
          go_roundg (j - (h + 1))
          case measure => omega
          case rel => exact ⟨h + 1, j, (by congr 1; have := Heh.out; omega), rfl, by omega, by omega, by omega, by omega, S2, Lib.hid ⟨Or.inr (by simp only [Nat.add_sub_cancel]; rw [← Hq2.out]; exact HV.out), HL.out.high⟩⟩
        · have hd1 : decide (cf y x < 0) = true := by rw [hx, hy, hk]; exact hv
          have hd2 : cf y x < 0 := of_decide_eq_true hd1
          have HV := Lib.hid hv
          have Heh := Lib.hid ea
          clear hx hy hh hv hk hq2 Hq
          go_wp2_with fail
          go_quiet_grown (first | (go_at_fn g; refine Calls.grown_of (hc _ _)))
          have S2 : Aside (SW enc w0 blk off d (grow (wr.drewN nq) osq)) := S1.out.grown nq osq
          clear l1 l2 hc S1
          generalize grow (wr.drewN nq) osq = w2 at S2 ⊢
          clear nq osq
          clear ea ra rb rc
          go_wp2
          go_roundg (h - i)
          case measure => omega
          case rel => exact ⟨i, h, rfl, (by congr 1; have := Heh.out; omega), by omega, by omega, by omega, by omega, S2, Lib.hid ⟨HL.out.low, Or.inr (by rw [← Hq2.out]; exact HV.out)⟩⟩
      · have hltz : ¬ (i : Int) < (j : Int) := by omega
        obtain rfl : i = j := by omega
        obtain ⟨e, he⟩ : ∃ e : Nat, e = mid + m - i := ⟨_, rfl⟩
        have C := Seek.cut HL.out (by omega) (by omega) Hmid.out H0.out hai hjb
        rw [← he] at C
        have CC := Lib.hid C
        obtain ⟨c1, c2, c3, c4, c5, _, _⟩ := C
        have hez : (mid : Int) + (m : Int) - (i : Int) = (e : Int) := by omega
        have Hd := Lib.hid hs
        have c5a : i + e ≤ mid + m := by omega
        have c5b : mid + m ≤ i + e := by omega
        clear he hs c5
        have P1 := Lib.hid (fun w' (S : SW enc w0 blk off d w') (h1 : i < m) (h2 : m < e) => rotate_s enc (.func (.func g) #[] cb) blk off cap i m e d0 d w0 w' R Hd.out S h1 h2 (by omega) hsz)
        have P2 := Lib.hid (fun (d2 : Array α) (hd : d2.size = d.size) (hr : ∀ k, d2[k]! = rotAt i m e d k) w' (S : SW enc w0 blk off d2 w') (h1 : a < i) (h2 : i < mid) => by
          have C := HI.out a i mid d2 w' (by omega) h1 h2 (by omega) (by omega) (by rw [hd]; exact Hd.out) S (CC.out.lower HH.out hr)
          rw [hd] at C
          exact C)
        have P3 := Lib.hid (fun (d2 d3 : Array α) (hd : d2.size = d.size) (hr : ∀ k, d2[k]! = rotAt i m e d k) (hp : PermIn a mid d2 d3) w' (S : SW enc w0 blk off d3 w') (h1 : mid < e) (h2 : e < b) => by
          have C := HI.out mid e b d3 w' (by omega) h1 h2 (by rw [hp.1]; omega) (by rw [hp.1]; omega) (by rw [hp.1, hd]; exact Hd.out) S (CC.out.upper HH.out hr hp)
          rw [hp.1, hd] at C
          exact C)
        clear z1 z2 z3 hltz hez
        have hez : (mid : Int) + (m : Int) - (i : Int) = (e : Int) := by omega
        go_upto_region 39 with fail
        go_cut [185] from 178 to 191 (fun v wx => ∃ B : Bool, v = .bool B ∧ Hid (B = decide (i < m ∧ m < e)) ∧ Aside (SW enc w0 blk off d wx))
        case first =>
          go_wp2
          all_goals
            go_meet
            case rel => exact ⟨_, rfl, Lib.hid (by rw [Bool.eq_iff_iff]; simp <;> omega), S1⟩
        case rest =>
          obtain ⟨B, rfl, HB, S2⟩ := hcut
          go_upto_if 185 with fail
          go_cut [] from 178 to 191 (fun wx => ∃ d2 : Array α, Hid (d2.size = d.size) ∧ Hid (∀ k, d2[k]! = rotAt i m e d k) ∧ Hid (PermIn a b d d2) ∧ Aside (SW enc w0 blk off d2 wx))
          case first =>
            cases B
            · have hr : ¬ (i < m ∧ m < e) := of_decide_eq_false HB.out.symm
              have Hr := Lib.hid hr
              clear hr
              go_wp2
              go_meet
              case rel => exact ⟨d, Lib.hid rfl, Lib.hid (rot_none i m e d (by have := Hr.out; omega) c2 c3), Lib.hid (permIn_refl _ _ _), S2⟩
            · have hr : i < m ∧ m < e := of_decide_eq_true HB.out.symm
              obtain ⟨hr1, hr2⟩ := hr
              go_wp2_with fail
              refine (P1.out _ S2.out hr1 hr2).mono ?_
              rintro e' w' ⟨rfl, d2, ⟨q1, q2, q3⟩, S3⟩
              have Q1 := Lib.hid q1
              have Q2 := Lib.hid q2
              have Q3 := Lib.hid (permIn_mono _ _ i e a b c1 c4 hb q3)
              have T2 : Aside _ := S3
              clear q1 q2 q3 S3
              go_wp2
              go_meet
              case rel => exact ⟨d2, Q1, Q2, Q3, T2⟩
          case rest =>
            obtain ⟨d2, Q1, Q2, Q3, T2⟩ := hcut
            clear HB S2
            go_upto_region 41 with fail
            go_cut [199] from 192 to 205 (fun v wx => ∃ B : Bool, v = .bool B ∧ Hid (B = decide (a < i ∧ i < mid)) ∧ Aside (SW enc w0 blk off d2 wx))
            case first =>
              go_wp2
              all_goals
                go_meet
                case rel => exact ⟨_, rfl, Lib.hid (by rw [Bool.eq_iff_iff]; simp <;> omega), T2⟩
            case rest =>
              obtain ⟨B2, rfl, HB2, S2⟩ := hcut
              go_upto_if 199 with fail
              go_cut [] from 192 to 205 (fun wx => ∃ d3 : Array α, Hid (PermIn a mid d2 d3) ∧ Hid (SortedIn tot a mid d3) ∧ Aside (SW enc w0 blk off d3 wx))
              case first =>
                cases B2
                · have hr : ¬ (a < i ∧ i < mid) := of_decide_eq_false HB2.out.symm
                  have Hr := Lib.hid hr
                  clear hr
                  go_wp2
                  go_meet
                  case rel => exact ⟨d2, Lib.hid (permIn_refl _ _ _), Lib.hid ((CC.out.lower HH.out Q2.out).sorted Hr.out), S2⟩
                · have hr : a < i ∧ i < mid := of_decide_eq_true HB2.out.symm
                  obtain ⟨hr1, hr2⟩ := hr
                  go_wp2_with fail
                  refine (P2.out d2 Q1.out Q2.out _ S2.out hr1 hr2).mono ?_
                  rintro e' w' ⟨rfl, d3, ⟨q1, q2⟩, S3⟩
                  have R1 := Lib.hid q1
                  have R2 := Lib.hid q2
                  have T3 : Aside _ := S3
                  clear q1 q2 S3
                  go_wp2
                  go_meet
                  case rel => exact ⟨d3, R1, R2, T3⟩
              case rest =>
                obtain ⟨d3, R1, R2, T3⟩ := hcut
                clear HB2 S2
                have fin : ∀ d4, PermIn mid b d3 d4 → SortedIn tot mid b d4 → PermIn a b d d4 ∧ SortedIn tot a b d4 := fun d4 p4 s4 => by
                  have g := glue a mid b d2 d3 d4 (by omega) (by omega) (by rw [Q1.out]; exact hb) (CC.out.cross O.swo HH.out Q2.out) R1.out R2.out p4 s4
                  exact ⟨permIn_trans _ _ _ _ _ Q3.out g.1, g.2⟩
                have FIN := Lib.hid fin
                clear fin
                go_upto_region 43 with fail
                go_cut [213] from 206 to 219 (fun v wx => ∃ B : Bool, v = .bool B ∧ Hid (B = decide (mid < e ∧ e < b)) ∧ Aside (SW enc w0 blk off d3 wx))
                case first =>
                  go_wp2
                  all_goals
                    go_meet
                    case rel => exact ⟨_, rfl, Lib.hid (by rw [Bool.eq_iff_iff]; simp <;> omega), T3⟩
                case rest =>
                  obtain ⟨B3, rfl, HB3, S2⟩ := hcut
                  cases B3
                  · have hr : ¬ (mid < e ∧ e < b) := of_decide_eq_false HB3.out.symm
                    have Hr := Lib.hid hr
                    clear hr
                    go_wp2
                    go_end0
                    exact ⟨rfl, d3, FIN.out d3 (permIn_refl _ _ _) ((CC.out.upper HH.out Q2.out R1.out).sorted Hr.out), S2.out⟩
                  · have hr : mid < e ∧ e < b := of_decide_eq_true HB3.out.symm
                    obtain ⟨hr1, hr2⟩ := hr
                    go_wp2_with fail
                    refine (P3.out d2 d3 Q1.out Q2.out R1.out _ S2.out hr1 hr2).mono ?_
                    rintro e' w' ⟨rfl, d4, ⟨q1, q2⟩, S3⟩
                    have R3 := Lib.hid q1
                    have R4 := Lib.hid q2
                    have T4 : Aside _ := S3
                    clear q1 q2 S3
                    go_wp2
                    go_end0
                    exact ⟨rfl, d4, FIN.out d4 R3.out R4.out, T4.out⟩
end Go.Proofs.YtalnocdgmcchaaaDoor
