/- Walks of container/heap: down, Push, Pop. -/
import Derived.Test.YtjokpfeiganigaaDoorPlaJ1
namespace Go.Proofs.YtjokpfeiganigaaDoor
open Go.RowKit Go.Shelf
set_option linter.unusedSimpArgs false
set_option linter.unusedVariables false

theorem But.drewr (w : World) (r : Nat) : But w w.drew (fun k => k = r) := But.of_below (Below.refl _ _).drew

set_option maxRecDepth 100000 in
set_option maxHeartbeats 8000000 in
theorem hdown_any (Q r cap : Nat) (cur : Array Value) (l : List Stp) (n : Nat) (w : World) (h : HQ w Q r cap cur l) (hb : l.length < 1000000) (hn : n ≤ l.length) (hx : DownX l n 0) :
    Calls Tryd.prog 100 #[encQ Q, .int .i64 0, .int .i64 n] w fun e w' => (∃ b, e = .returned (.bool b)) ∧ ∃ cur' l', HQ w' Q r cap cur' l' ∧ l'.Perm l ∧ l'.length = l.length ∧ HeapB l' n ∧ (∀ k, n ≤ k → el l' k = el l k) ∧ But w w' (fun k => k = r) := by
  go_enter Tryd.func100, Tryd.ntmps100
  go_wp2
  go_loopg [7] n (fun kx s1 wr => ∃ (m : Nat) (cu : Array Value) (lx : List Stp), s1 = .int .i64 m ∧ m + kx ≤ n ∧ n ≤ m + kx ∧ Hid (lx.length = l.length ∧ lx.Perm l ∧ DownX lx n m ∧ (∀ k, n ≤ k → el lx k = el l k) ∧ But w wr (fun k => k = r) ∧ HQ wr Q r cap cu lx))
  case atStart => exact ⟨0, cur, l, rfl, by omega, by omega, Lib.hid ⟨rfl, List.Perm.refl _, hx, fun _ _ => rfl, But.refl _ _, h⟩⟩
  case round =>
    obtain ⟨m, cu, lx, rfl, hk1, hk2, I⟩ := hrel
    clear h hx
    have hm6 : m < 1000000 := by omega
    have hn6 : n < 1000000 := by omega
    by_cases hA : n ≤ 2 * m + 1
    · have i1 : (n : Int) ≤ 2 * (m : Int) + 1 := by omega
      have HR : Hid (HeapB lx n) := Lib.hid (I.out.2.2.1.done (fun k h0 h1 h2 => by omega))
      go_wp2
      go_ret
      exact ⟨⟨_, rfl⟩, cu, lx, I.out.2.2.2.2.2, I.out.2.1, I.out.1, HR.out, I.out.2.2.2.1, I.out.2.2.2.2.1⟩
    · have i1 : 2 * (m : Int) + 1 < (n : Int) := by omega
      have hml : m < lx.length := by rw [I.out.1]; omega
      have hj1 : 2 * m + 1 < lx.length := by rw [I.out.1]; omega
      by_cases hB : 2 * m + 2 < n
      · have i2 : 2 * (m : Int) + 1 + 1 < (n : Int) := by omega
        have hj2 : 2 * m + 2 < lx.length := by rw [I.out.1]; omega
        have ML := m_less (box_cell I.out.2.2.2.2.2)
        have CL1 := Lib.hid (less_any Q r cap cu lx (2 * m + 2) (2 * m + 1) wr I.out.2.2.2.2.2 hj2 hj1)
        rw [show (((2 * m + 2 : Nat)) : Int) = 2 * (m : Int) + 1 + 1 by omega, show (((2 * m + 1 : Nat)) : Int) = 2 * (m : Int) + 1 by omega] at CL1
        by_cases hC : key lx (2 * m + 2) < key lx (2 * m + 1)
        · rw [decide_eq_true hC] at CL1
          have hjl := hj2
          clear hj1 hj2
          have hqa : Hid (HQ wr.drew Q r cap cu lx) := Lib.hid (I.out.2.2.2.2.2.more ((Below.refl _ wr).drew))
          have ML2 := m_less (box_cell hqa.out)
          have CL2 := Lib.hid (less_any Q r cap cu lx (2 * m + 2) m _ hqa.out hjl hml)
          rw [show (((2 * m + 2 : Nat)) : Int) = 2 * (m : Int) + 1 + 1 by omega] at CL2
          have hmin : Hid (∀ k, 0 < k → k < n → (k - 1) / 2 = m → key lx (2 * m + 2) ≤ key lx k) := Lib.hid (fun k h0 h1 h2 => by
            have : k = 2 * m + 1 ∨ k = 2 * m + 2 := by omega
            rcases this with rfl | rfl
            · exact Nat.le_of_lt hC
            · exact Nat.le_refl _)
          by_cases hlt : key lx (2 * m + 2) < key lx m
          · rw [decide_eq_true hlt] at CL2
            have HS := Lib.hid (I.out.2.2.1.swap (by rw [I.out.1]; exact hn) (show 2 * m + 2 < n by omega) (by omega) (by omega) hmin.out hlt)
            have hqb : Hid (HQ wr.drew.drew Q r cap cu lx) := Lib.hid (hqa.out.more ((Below.refl _ _).drew))
            have MS := m_swap (box_cell hqb.out)
            have CS := Lib.hid (swapq_any m (2 * m + 2) hqb.out hml hjl)
            rw [show (((2 * m + 2 : Nat)) : Int) = 2 * (m : Int) + 1 + 1 by omega] at CS
            have HE : Hid ((swapL lx m (2 * m + 2)).length = l.length ∧ (swapL lx m (2 * m + 2)).Perm l ∧ ∀ k, n ≤ k → el (swapL lx m (2 * m + 2)) k = el l k) := Lib.hid ⟨by rw [swapL_len]; exact I.out.1, (swapL_perm lx m (2 * m + 2) hml hjl).trans I.out.2.1, fun k hk => by
              rw [el_swap lx m (2 * m + 2) hml hjl, if_neg (by omega), if_neg (by omega)]
              exact I.out.2.2.2.1 k hk⟩
            have hkn : ∃ kn, kn < gk ∧ (2 * m + 2) + kn ≤ n ∧ n ≤ (2 * m + 2) + kn := ⟨n - (2 * m + 2), by omega, by omega, by omega⟩
            obtain ⟨kn, hkn⟩ := hkn
            have HKN := Lib.hid hkn
            clear hlt hkn hml hjl hA hk1 hk2
            go_wp2_with (first
              | (go_at_call 162; with_reducible refine CL1.out.mono ?_; rintro e w' ⟨rfl, rfl⟩) | (go_at_call 162; with_reducible refine CL2.out.mono ?_; rintro e w' ⟨rfl, rfl⟩)
              | (go_at_call 165; refine CS.out.mono ?_; rintro e w' ⟨rfl, cu', hq', hb'⟩))
            go_roundg kn
            case measure => exact HKN.out.1
            case rel => exact ⟨2 * m + 2, cu', swapL lx m (2 * m + 2), by rw [show (((2 * m + 2 : Nat)) : Int) = 2 * (m : Int) + 1 + 1 by omega], HKN.out.2.1, HKN.out.2.2, Lib.hid ⟨HE.out.1, HE.out.2.1, HS.out, HE.out.2.2, (((I.out.2.2.2.2.1.trans (But.drewr wr r) (fun _ _ h => h)).trans (But.drewr _ r) (fun _ _ h => h)).trans hb' (fun _ _ h => h)), hq'⟩⟩
          · rw [decide_eq_false hlt] at CL2
            have HR : Hid (HeapB lx n) := Lib.hid (I.out.2.2.1.done (fun k h0 h1 h2 => Nat.le_trans (Nat.le_of_not_lt hlt) (hmin.out k h0 h1 h2)))
            clear hlt hml hjl hA hk1 hk2
            go_wp2_with (first | (go_at_call 162; with_reducible refine CL1.out.mono ?_; rintro e w' ⟨rfl, rfl⟩) | (go_at_call 162; with_reducible refine CL2.out.mono ?_; rintro e w' ⟨rfl, rfl⟩))
            go_ret
            exact ⟨⟨_, rfl⟩, cu, lx, hqa.out.more ((Below.refl _ _).drew), I.out.2.1, I.out.1, HR.out, I.out.2.2.2.1, ((I.out.2.2.2.2.1.trans (But.drewr wr r) (fun _ _ h => h)).trans (But.drewr _ r) (fun _ _ h => h))⟩
        · rw [decide_eq_false hC] at CL1
          have hjl := hj1
          clear hj1 hj2
          have hqa : Hid (HQ wr.drew Q r cap cu lx) := Lib.hid (I.out.2.2.2.2.2.more ((Below.refl _ wr).drew))
          have ML2 := m_less (box_cell hqa.out)
          have CL2 := Lib.hid (less_any Q r cap cu lx (2 * m + 1) m _ hqa.out hjl hml)
          rw [show (((2 * m + 1 : Nat)) : Int) = 2 * (m : Int) + 1 by omega] at CL2
          have hmin : Hid (∀ k, 0 < k → k < n → (k - 1) / 2 = m → key lx (2 * m + 1) ≤ key lx k) := Lib.hid (fun k h0 h1 h2 => by
            have : k = 2 * m + 1 ∨ k = 2 * m + 2 := by omega
            rcases this with rfl | rfl
            · exact Nat.le_refl _
            · exact Nat.le_of_not_lt hC)
          by_cases hlt : key lx (2 * m + 1) < key lx m
          · rw [decide_eq_true hlt] at CL2
            have HS := Lib.hid (I.out.2.2.1.swap (by rw [I.out.1]; exact hn) (show 2 * m + 1 < n by omega) (by omega) (by omega) hmin.out hlt)
            have hqb : Hid (HQ wr.drew.drew Q r cap cu lx) := Lib.hid (hqa.out.more ((Below.refl _ _).drew))
            have MS := m_swap (box_cell hqb.out)
            have CS := Lib.hid (swapq_any m (2 * m + 1) hqb.out hml hjl)
            rw [show (((2 * m + 1 : Nat)) : Int) = 2 * (m : Int) + 1 by omega] at CS
            have HE : Hid ((swapL lx m (2 * m + 1)).length = l.length ∧ (swapL lx m (2 * m + 1)).Perm l ∧ ∀ k, n ≤ k → el (swapL lx m (2 * m + 1)) k = el l k) := Lib.hid ⟨by rw [swapL_len]; exact I.out.1, (swapL_perm lx m (2 * m + 1) hml hjl).trans I.out.2.1, fun k hk => by
              rw [el_swap lx m (2 * m + 1) hml hjl, if_neg (by omega), if_neg (by omega)]
              exact I.out.2.2.2.1 k hk⟩
            have hkn : ∃ kn, kn < gk ∧ (2 * m + 1) + kn ≤ n ∧ n ≤ (2 * m + 1) + kn := ⟨n - (2 * m + 1), by omega, by omega, by omega⟩
            obtain ⟨kn, hkn⟩ := hkn
            have HKN := Lib.hid hkn
            clear hlt hkn hml hjl hA hk1 hk2
            go_wp2_with (first
              | (go_at_call 162; with_reducible refine CL1.out.mono ?_; rintro e w' ⟨rfl, rfl⟩) | (go_at_call 162; with_reducible refine CL2.out.mono ?_; rintro e w' ⟨rfl, rfl⟩)
              | (go_at_call 165; refine CS.out.mono ?_; rintro e w' ⟨rfl, cu', hq', hb'⟩))
            go_roundg kn
            case measure => exact HKN.out.1
            case rel => exact ⟨2 * m + 1, cu', swapL lx m (2 * m + 1), by rw [show (((2 * m + 1 : Nat)) : Int) = 2 * (m : Int) + 1 by omega], HKN.out.2.1, HKN.out.2.2, Lib.hid ⟨HE.out.1, HE.out.2.1, HS.out, HE.out.2.2, (((I.out.2.2.2.2.1.trans (But.drewr wr r) (fun _ _ h => h)).trans (But.drewr _ r) (fun _ _ h => h)).trans hb' (fun _ _ h => h)), hq'⟩⟩
          · rw [decide_eq_false hlt] at CL2
            have HR : Hid (HeapB lx n) := Lib.hid (I.out.2.2.1.done (fun k h0 h1 h2 => Nat.le_trans (Nat.le_of_not_lt hlt) (hmin.out k h0 h1 h2)))
            clear hlt hml hjl hA hk1 hk2
            go_wp2_with (first | (go_at_call 162; with_reducible refine CL1.out.mono ?_; rintro e w' ⟨rfl, rfl⟩) | (go_at_call 162; with_reducible refine CL2.out.mono ?_; rintro e w' ⟨rfl, rfl⟩))
            go_ret
            exact ⟨⟨_, rfl⟩, cu, lx, hqa.out.more ((Below.refl _ _).drew), I.out.2.1, I.out.1, HR.out, I.out.2.2.2.1, ((I.out.2.2.2.2.1.trans (But.drewr wr r) (fun _ _ h => h)).trans (But.drewr _ r) (fun _ _ h => h))⟩
      · have i2 : ¬ 2 * (m : Int) + 1 + 1 < (n : Int) := by omega
        have hjl := hj1
        clear hj1
        have hqa : Hid (HQ wr Q r cap cu lx) := Lib.hid (I.out.2.2.2.2.2)
        have ML2 := m_less (box_cell hqa.out)
        have CL2 := Lib.hid (less_any Q r cap cu lx (2 * m + 1) m _ hqa.out hjl hml)
        rw [show (((2 * m + 1 : Nat)) : Int) = 2 * (m : Int) + 1 by omega] at CL2
        have hmin : Hid (∀ k, 0 < k → k < n → (k - 1) / 2 = m → key lx (2 * m + 1) ≤ key lx k) := Lib.hid (fun k h0 h1 h2 => by
          have : k = 2 * m + 1 ∨ k = 2 * m + 2 := by omega
          rcases this with rfl | rfl
          · exact Nat.le_refl _
          · omega)
        by_cases hlt : key lx (2 * m + 1) < key lx m
        · rw [decide_eq_true hlt] at CL2
          have HS := Lib.hid (I.out.2.2.1.swap (by rw [I.out.1]; exact hn) (show 2 * m + 1 < n by omega) (by omega) (by omega) hmin.out hlt)
          have hqb : Hid (HQ wr.drew Q r cap cu lx) := Lib.hid (hqa.out.more ((Below.refl _ _).drew))
          have MS := m_swap (box_cell hqb.out)
          have CS := Lib.hid (swapq_any m (2 * m + 1) hqb.out hml hjl)
          rw [show (((2 * m + 1 : Nat)) : Int) = 2 * (m : Int) + 1 by omega] at CS
          have HE : Hid ((swapL lx m (2 * m + 1)).length = l.length ∧ (swapL lx m (2 * m + 1)).Perm l ∧ ∀ k, n ≤ k → el (swapL lx m (2 * m + 1)) k = el l k) := Lib.hid ⟨by rw [swapL_len]; exact I.out.1, (swapL_perm lx m (2 * m + 1) hml hjl).trans I.out.2.1, fun k hk => by
            rw [el_swap lx m (2 * m + 1) hml hjl, if_neg (by omega), if_neg (by omega)]
            exact I.out.2.2.2.1 k hk⟩
          have hkn : ∃ kn, kn < gk ∧ (2 * m + 1) + kn ≤ n ∧ n ≤ (2 * m + 1) + kn := ⟨n - (2 * m + 1), by omega, by omega, by omega⟩
          obtain ⟨kn, hkn⟩ := hkn
          have HKN := Lib.hid hkn
          clear hlt hkn hml hjl hA hk1 hk2
          go_wp2_with (first
            | (go_at_call 162; with_reducible refine CL2.out.mono ?_; rintro e w' ⟨rfl, rfl⟩)
            | (go_at_call 165; refine CS.out.mono ?_; rintro e w' ⟨rfl, cu', hq', hb'⟩))
          go_roundg kn
          case measure => exact HKN.out.1
          case rel => exact ⟨2 * m + 1, cu', swapL lx m (2 * m + 1), by rw [show (((2 * m + 1 : Nat)) : Int) = 2 * (m : Int) + 1 by omega], HKN.out.2.1, HKN.out.2.2, Lib.hid ⟨HE.out.1, HE.out.2.1, HS.out, HE.out.2.2, ((I.out.2.2.2.2.1.trans (But.drewr _ r) (fun _ _ h => h)).trans hb' (fun _ _ h => h)), hq'⟩⟩
        · rw [decide_eq_false hlt] at CL2
          have HR : Hid (HeapB lx n) := Lib.hid (I.out.2.2.1.done (fun k h0 h1 h2 => Nat.le_trans (Nat.le_of_not_lt hlt) (hmin.out k h0 h1 h2)))
          clear hlt hml hjl hA hk1 hk2
          go_wp2_with (first | (go_at_call 162; with_reducible refine CL2.out.mono ?_; rintro e w' ⟨rfl, rfl⟩))
          go_ret
          exact ⟨⟨_, rfl⟩, cu, lx, hqa.out.more ((Below.refl _ _).drew), I.out.2.1, I.out.1, HR.out, I.out.2.2.2.1, (I.out.2.2.2.2.1.trans (But.drewr _ r) (fun _ _ h => h))⟩

end Go.Proofs.YtjokpfeiganigaaDoor
