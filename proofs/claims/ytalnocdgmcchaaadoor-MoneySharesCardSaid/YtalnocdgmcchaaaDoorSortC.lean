/- The library's stable sort, walked: symMergeCmpFunc where the right row is one element. -/
import Derived.Test.YtalnocdgmcchaaaDoorSortB
namespace Go.Proofs.YtalnocdgmcchaaaDoor
open Go.Shelf Go.RowKit Go.Lib Go.Sort
set_option linter.unusedSimpArgs false
set_option linter.unusedVariables false
variable {α : Type} [Inhabited α]

theorem ite_at (d : Array α) (x m : Nat) : d[x]! = if x = m then d[m]! else d[x]! := by
  by_cases h : x = m
  · rw [if_pos h, h]
  · rw [if_neg h]

set_option maxHeartbeats 4000000 in
set_option maxRecDepth 100000 in
theorem symMerge_right (enc : α → Value) (cf : α → α → Int) (tot : α → α → Bool) (lo : α → α → Prop) (O : Ordd (ltOf cf) tot lo) (g : Nat) (cb : Array Value) (blk off cap a m b : Nat) (d0 d : Array α) (w0 w : World)
    (eg : ∀ args w, (callFunc g args).run Tryd.prog w = .ok (.enter g args) w) (hcmp : CmpLays1 Tryd.prog g cb enc cf blk off d0.size w0) (R : Row1 enc w0 blk off d0)
    (hs : d0.size = d.size) (S : SW enc w0 blk off d w) (hb1 : b = m + 1) (ham : a + 1 < m) (hb : b ≤ d.size) (hsz : d.size < 4611686018427387904) (H : Halves tot lo a m b d) :
    Calls Tryd.prog 66 #[.slice (some ⟨blk, off, none⟩) d.size cap, .int .i64 a, .int .i64 m, .int .i64 b, .func (.func g) #[] cb] w
      (Left enc w0 blk off fun d' => PermIn a b d d' ∧ SortedIn tot a b d') := by
  have mixed : Tryd.prog.follows .mixedOrders = true := by kernel_rfl
  have hcl0 := R.hO.cells
  simp only [Value.cells] at hcl0
  have hst := R.hO.store Tryd.prog
  have S0 : Aside (SW enc w0 blk off d w) := S
  have HC : Aside _ := hcmp
  have HH := Lib.hid H
  clear S hcmp H
  have hm1 : ((m : Int) - (a : Int) == 1) = false := by rw [beq_eq_false_iff_ne]; omega
  have hm4 : ((b : Int) - (m : Int) == 1) = true := by rw [beq_iff_eq]; omega
  have hm2 : m + 1 ≤ b := by omega
  have hm3 : b ≤ m + 1 := by omega
  clear hb1
  go_enter Tryd.func66, Tryd.ntmps66
  go_wp2
  go_loopg [14, 15, 16] (m - a) (fun g1 vi vj vh wr => ∃ (i j : Nat), vi = .int .i64 i ∧ vj = .int .i64 j ∧ a ≤ i ∧ i ≤ j ∧ j ≤ m ∧ j - i ≤ g1 ∧ Aside (SW enc w0 blk off d wr) ∧ Hid (i = a ∨ tot d[m]! d[i - 1]! = false) ∧ Hid (j = m ∨ tot d[m]! d[j]! = true))
  case atStart => exact ⟨a, m, rfl, rfl, by omega, by omega, by omega, by omega, S0, Lib.hid (Or.inl rfl), Lib.hid (Or.inl rfl)⟩
  case round =>
    clear S0
    obtain ⟨i, j, rfl, rfl, hai, hij, hjb, hg1, S1, HL, HR⟩ := hrel
    by_cases hlt : i < j
    · have hltz : (i : Int) < (j : Int) := by omega
      obtain ⟨h, hh⟩ : ∃ h : Nat, h = (i + j) / 2 := ⟨_, rfl⟩
      have hk := test_lt O (HH.out.asc h m (by omega) (by omega) (by omega) (by omega))
      have h1 : i ≤ h := by omega
      have h2 : h < j := by omega
      have ea : (((i : Int) + (j : Int)) / 2).toNat = h := by omega
      have pa : (0 : Int) ≤ ((i : Int) + (j : Int)) / 2 := by omega
      have ba : ((i : Int) + (j : Int)) / 2 < (d.size : Int) := by omega
      have bc : (m : Int) < (d.size : Int) := by omega
      have l1 := S1.out.cl R (by omega) h (by omega)
      have l2 := S1.out.cl R (by omega) m (by omega)
      obtain ⟨x, hx⟩ : ∃ x, x = d[h]! := ⟨_, rfl⟩
      obtain ⟨y, hy⟩ : ∃ x, x = d[m]! := ⟨_, rfl⟩
      rw [← hx] at l1
      rw [← hy] at l2
      have hc := S1.out.cmp HC.out (by omega) y x
      cases hv : tot d[m]! d[h]!
      · have hd1 : decide (cf y x < 0) = false := by rw [hx, hy, hk]; exact hv
        have hd2 : ¬ cf y x < 0 := of_decide_eq_false hd1
        have HV := Lib.hid hv
        have Heh := Lib.hid ea
        clear hx hy hh hv hk
        go_wp2_with fail
        go_quiet_grown (first | (go_at_fn g; refine Calls.grown_of (hc _ _)))
        have S2 : Aside (SW enc w0 blk off d (grow (wr.drewN nq) osq)) := S1.out.grown nq osq
        clear l1 l2 hc S1
        generalize grow (wr.drewN nq) osq = w2 at S2 ⊢
        clear nq osq
        clear ea
        go_wp2
        go_roundg (j - (h + 1))
        case measure => omega
        case rel => exact ⟨h + 1, j, (by congr 1; have := Heh.out; omega), rfl, by omega, by omega, by omega, by omega, S2, Lib.hid (Or.inr (by simpa using HV.out)), HR⟩
      · have hd1 : decide (cf y x < 0) = true := by rw [hx, hy, hk]; exact hv
        have hd2 : cf y x < 0 := of_decide_eq_true hd1
        have HV := Lib.hid hv
        have Heh := Lib.hid ea
        clear hx hy hh hv hk
        go_wp2_with fail
        go_quiet_grown (first | (go_at_fn g; refine Calls.grown_of (hc _ _)))
        have S2 : Aside (SW enc w0 blk off d (grow (wr.drewN nq) osq)) := S1.out.grown nq osq
        clear l1 l2 hc S1
        generalize grow (wr.drewN nq) osq = w2 at S2 ⊢
        clear nq osq
        clear ea
        go_wp2
        go_roundg (h - i)
        case measure => omega
        case rel => exact ⟨i, h, rfl, (by congr 1; have := Heh.out; omega), by omega, by omega, by omega, by omega, S2, HL, Lib.hid (Or.inr HV.out)⟩
    · have hltz : ¬ (i : Int) < (j : Int) := by omega
      obtain rfl : i = j := by omega
      go_wp2
      go_loopg [17] (m - i) (fun g1 vk wr => ∃ (k : Nat) (dk : Array α), vk = .int .i64 k ∧ i ≤ k ∧ k ≤ m ∧ k - i ≤ g1 ∧ dk.size = d.size ∧ Aside (SW enc w0 blk off dk wr) ∧ Hid (∀ x, dk[x]! = if k < x ∧ x ≤ m then d[x - 1]! else if x = k then d[m]! else d[x]!) ∧ Hid (PermIn a b d dk))
      case atStart => exact ⟨m, d, rfl, by omega, by omega, by omega, rfl, S1, Lib.hid (fun x => by rw [if_neg (by omega)]; exact ite_at d x m), Lib.hid (permIn_refl _ _ _)⟩
      case round =>
        clear S1
        obtain ⟨k, dk, rfl, hak, hki, hg2, hsk, S1, HA, HP⟩ := hrel
        by_cases hlt2 : i < k
        · have hltz2 : (k : Int) > (i : Int) := by omega
          obtain ⟨kp, hkp⟩ : ∃ q, q + 1 = k := ⟨k - 1, by omega⟩
          have zkp : (k : Int) - 1 = (kp : Int) := by omega
          go_wp2_with fail
          have ba : (k : Int) < (d.size : Int) := by omega
          have bc : (kp : Int) < (d.size : Int) := by omega
          have rc : IntKind.i64.wrap ((k : Int) - 1) = (kp : Int) := by rw [IntKind.wrap_i64]; omega
          obtain ⟨x, hx⟩ : ∃ x, x = dk[k]! := ⟨_, rfl⟩
          obtain ⟨y, hy⟩ : ∃ x, x = dk[kp]! := ⟨_, rfl⟩
          have S3 : Aside (SW enc w0 blk off (swp dk k kp) ((wr.setCell ⟨blk, off + k, none⟩ (enc y)).setCell ⟨blk, off + kp, none⟩ (enc x)).drew) := by
            rw [hx, hy]; exact S1.out.swapped R k kp (by omega) (by omega)
          have c1 := S1.out.c1 R (by omega) k (by omega)
          have c2 := S1.out.c1 R (by omega) kp (by omega)
          have f1 := S1.out.f1 R (by omega) k (by omega)
          have f2 := S1.out.f1 R (by omega) kp (by omega)
          obtain ⟨u, c3⟩ := S1.out.c2 R (by omega) k kp (by omega) (by omega) (enc y)
          rw [← hx] at c1
          rw [← hy] at c2
          have Hkp := Lib.hid hkp
          clear S1 hx hy hkp
          go_wp2_with fail
          go_big_region_o
          clear c1 c2 c3 f1 f2
          generalize ((wr.setCell ⟨blk, off + k, none⟩ (enc y)).setCell ⟨blk, off + kp, none⟩ (enc x)).drew = w3 at S3 ⊢
          go_wp2
          have hkp := Hkp.out
          subst hkp
          go_roundg (kp - i)
          case measure => omega
          case rel => exact ⟨kp, swp dk (kp + 1) kp, rfl, by omega, by omega, by omega, by rw [size_swp]; exact hsk, S3, Lib.hid (swp_down m d dk kp (by omega) (by omega) hsk HA.out),
            Lib.hid (permIn_trans _ _ _ _ _ HP.out (swp_permIn dk a b (kp + 1) kp (by omega) (by omega) (by omega) (by omega) (by omega)))⟩
        · have hltz2 : ¬ (k : Int) > (i : Int) := by omega
          obtain rfl : i = k := by omega
          go_wp2
          go_end0
          have h0 : b = m + 1 := by omega
          have H1 : Halves tot lo a m (m + 1) d := by rw [← h0]; exact HH.out
          refine ⟨rfl, dk, ⟨HP.out, ?_⟩, S1.out⟩
          rw [h0]
          exact one_right O.swo H1 (by omega) (by omega) HL.out HR.out HA.out
end Go.Proofs.YtalnocdgmcchaaaDoor
