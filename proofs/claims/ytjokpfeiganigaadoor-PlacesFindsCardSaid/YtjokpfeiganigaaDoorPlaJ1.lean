/- Walks of container/heap: up. -/
import Derived.Test.YtjokpfeiganigaaDoorPlaJ0
namespace Go.Proofs.YtjokpfeiganigaaDoor
open Go.RowKit Go.Shelf
set_option linter.unusedSimpArgs false
set_option linter.unusedVariables false

set_option maxRecDepth 100000 in
set_option maxHeartbeats 2000000 in
theorem hup_any (Q r cap : Nat) (cur : Array Value) (l : List Stp) (j : Nat) (w : World) (h : HQ w Q r cap cur l) (hb : l.length < 1000000) (hj : j < l.length) (hx : UpX l j) :
    Calls Tryd.prog 101 #[encQ Q, .int .i64 j] w fun e w' => e = .returned (.tuple #[]) ∧ ∃ cur' l', HQ w' Q r cap cur' l' ∧ l'.Perm l ∧ HeapB l' l'.length ∧ But w w' (fun k => k = r) := by
  go_enter Tryd.func101, Tryd.ntmps101
  go_wp2
  go_loopg [1] j (fun kx s1 wr => ∃ (m : Nat) (cu : Array Value) (lx : List Stp), s1 = .int .i64 m ∧ m ≤ kx ∧ m < lx.length ∧ lx.length = l.length ∧ HQ wr Q r cap cu lx ∧ lx.Perm l ∧ UpX lx m ∧ But w wr (fun k => k = r))
  case atStart => exact ⟨j, cur, l, rfl, Nat.le_refl _, hj, rfl, h, List.Perm.refl _, hx, But.refl _ _⟩
  case round =>
    obtain ⟨m, cu, lx, rfl, hk, hm, hlen, hq, hp, hu, hbut⟩ := hrel
    have HU := Lib.hid hu
    clear hu h hx
    by_cases h0 : m = 0
    · subst h0
      have HR : Hid (HeapB lx lx.length) := Lib.hid (HU.out.done (.inl rfl))
      clear hlen
      go_wp2
      exact bodyPost_end (results_none rfl _ _ _) rfl ⟨rfl, cu, lx, hq, hp, HR.out, hbut⟩
    · obtain ⟨p, hpm⟩ : ∃ p, p = (m - 1) / 2 := ⟨_, rfl⟩
      have hpl : p < lx.length := by omega
      have hpk : p < gk := by omega
      have h0m : 0 < m := by omega
      have hpl2 : p < (swapL lx p m).length := by rw [swapL_len]; omega
      have hlen2 : (swapL lx p m).length = l.length := by rw [swapL_len]; omega
      have w1 : wrap64 ((m : Int) - 1) = (m : Int) - 1 := IntWalk.wrap64_in _ (by omega)
      have e1 : ((m : Int) - 1).tdiv 2 = (p : Int) := by rw [Int.tdiv_eq_ediv_of_nonneg (by omega)]; omega
      have e2 : ((p : Int) == (m : Int)) = false := by rw [beq_eq_false_iff_ne]; omega
      have w2 : wrap64 (p : Int) = (p : Int) := IntWalk.wrap64_in _ (by omega)
      have ML := m_less (box_cell hq)
      have CL := Lib.hid (less_any Q r cap cu lx m p wr hq hm hpl)
      by_cases hlt : key lx m < key lx p
      · have HS := Lib.hid (HU.out.swap h0m hm (by rw [← hpm]; exact hlt))
        rw [← hpm] at HS
        rw [decide_eq_true hlt] at CL
        have hq2 := hq.more ((Below.refl _ wr).drew)
        have MS := m_swap (box_cell hq2)
        have CS := Lib.hid (swapq_any p m hq2 hpl hm)
        have hperm := swapL_perm lx p m hpl hm
        have HL2 := Lib.hid hlen2
        have HL := Lib.hid hlen
        clear hlt hpm hlen hlen2
        go_wp2_with (first
          | (go_at_call 162; refine CL.out.mono ?_; rintro e w' ⟨rfl, rfl⟩)
          | (go_at_call 165; refine CS.out.mono ?_; rintro e w' ⟨rfl, cu', hq', hb'⟩))
        go_roundg p
        case measure => exact hpk
        case rel => exact ⟨p, cu', swapL lx p m, rfl, Nat.le_refl _, hpl2, HL2.out, hq', hperm.trans hp, HS.out, (hbut.trans (But.of_below (X := fun k => k = r) (Below.refl _ _).drew) (fun _ _ h => h)).trans hb' (fun _ _ h => h)⟩
      · have HR : Hid (HeapB lx lx.length) := Lib.hid (HU.out.done (.inr (by rw [← hpm]; exact Nat.le_of_not_lt hlt)))
        rw [decide_eq_false hlt] at CL
        have HL2 := Lib.hid hlen2
        have HL := Lib.hid hlen
        clear hlt hpm hlen hlen2
        go_wp2_with (go_at_call 162; refine CL.out.mono ?_; rintro e w' ⟨rfl, rfl⟩)
        exact bodyPost_end (results_none rfl _ _ _) rfl ⟨rfl, cu, lx, hq.more ((Below.refl _ _).drew), hp, HR.out, hbut.trans (But.of_below (X := fun k => k = r) (Below.refl _ _).drew) (fun _ _ h => h)⟩

end Go.Proofs.YtjokpfeiganigaaDoor
