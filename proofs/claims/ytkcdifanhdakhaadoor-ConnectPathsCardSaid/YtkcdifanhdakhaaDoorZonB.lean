/- Walk of the reference's Check. -/
import Derived.Test.YtkcdifanhdakhaaDoorZonA
namespace Go.Proofs.YtkcdifanhdakhaaDoor
open Go.RowKit
set_option linter.unusedSimpArgs false
set_option linter.unusedVariables false

set_option maxRecDepth 100000 in
set_option maxHeartbeats 2000000 in
theorem rcheck_any (o : Int) (A : Option Addr) (c : Nat) (l : Shs) (w : World) (hl : l.length < 9223372036854775808) (hL : ShL w A l) (hr : ∀ k, k < l.length → -9223372036854775808 ≤ shA l k ∧ shA l k ≤ 9223372036854775807) :
    Calls Tryd.prog 47 #[encZ o A l.length c] w fun e w' => e = .returned (.int .i64 (errZ o l)) ∧ Below w.heap.size w w' := by
  by_cases h1 : 256 < l.length
  · have i1 : (256 : Int) < (l.length : Int) := by omega
    have HR : Hid (errZ o l = 4) := Lib.hid (by rw [errZ, if_pos h1])
    clear h1
    go_enter Tryd.func47, Tryd.ntmps47
    go_wp2
    go_ret
    exact ⟨by rw [HR.out]; rfl, bel_alloc _ _⟩
  have i1 : (l.length : Int) ≤ 256 := by omega
  cases ho : offB o
  · have HR : Hid (errZ o l = 2) := Lib.hid (by rw [errZ, if_neg h1, ho]; rfl)
    have C1 := Lib.hid (fun w => ho ▸ rOff_any o w)
    clear h1 ho
    go_enter Tryd.func47, Tryd.ntmps47
    go_wp2_with (go_at_call 69; refine (C1.out _).mono ?_; rintro e w' ⟨rfl, rfl⟩)
    go_ret
    exact ⟨by rw [HR.out]; rfl, bel_alloc _ _⟩
  have HR : Hid (errZ o l = errAt l l.length 0) := Lib.hid (by rw [errZ, if_neg h1, ho]; rfl)
  have C1 := Lib.hid (fun w => ho ▸ rOff_any o w)
  clear h1 ho
  go_enter Tryd.func47, Tryd.ntmps47
  go_wp2_with (go_at_call 69; refine (C1.out _).mono ?_; rintro e w' ⟨rfl, rfl⟩)
  have hL0 := hL.more (bel_alloc w (.cells #[.int .i64 o, .slice A l.length c] zoneT))
  have z0 := cells_new w #[.int .i64 o, .slice A l.length c] zoneT 0
  have z1 := cells_new w #[.int .i64 o, .slice A l.length c] zoneT 1
  have hbw := bel_alloc w (.cells #[.int .i64 o, .slice A l.length c] zoneT)
  simp only [List.getElem?_toArray, List.getElem?_cons_zero, List.getElem?_cons_succ] at z0 z1
  clear hL C1
  generalize hw0 : w.alloc (.cells #[.int .i64 o, .slice A l.length c] zoneT) = w0 at *
  go_loopw [3] (fun vi wr => ∃ k : Nat, k ≤ l.length ∧ vi = .int .i64 k ∧ Hid (errZ o l = errAt l (l.length - k) k) ∧ (0 < k → 0 ≤ shA l (k - 1) ∧ shA l (k - 1) < 52596000) ∧ Below w0.heap.size w0 wr) (fun vi _ => l.length - (intOf vi).toNat)
  case atStart => exact ⟨0, Nat.zero_le _, rfl, HR, by omega, Below.refl _ _⟩
  case round =>
    obtain ⟨k, hk, rfl, HK, hp, hb⟩ := hrel
    by_cases hlt : k < l.length
    · obtain ⟨g, off, rfl, hgl, hcc⟩ := hL0.at hlt
      have i2 : (k : Int) < (l.length : Int) := by omega
      have HS := Lib.hid (HK.out.trans (errAt_step l k _ rfl hlt))
      obtain ⟨g0, g1⟩ := hcc k hlt
      have hrk := hr k hlt
      have CO := Lib.hid (fun W => rOff_any (shF l k) W)
      have gm : 0 < k → w0.cell? ⟨g, off + (k - 1) * 2, none⟩ = some (.int .i64 (shA l (k - 1))) := fun h => (hcc (k - 1) (by omega)).1
      have hbad : Hid (badT l k = (!timeB (shA l k) || (decide (0 < k) && decide (shA l k - shA l (k - 1) < 2880)))) := Lib.hid (by
        simp only [badT, timeB]
        congr 1
        rw [Bool.eq_iff_iff]; simp)
      clear hcc HK hr hL0
      have gk0 := (hb.cell (p := ⟨g, off + k * 2, none⟩) hgl).trans g0
      have gk1 := (hb.cell (p := ⟨g, off + k * 2 + 1, none⟩) hgl).trans g1
      generalize hak : shA l k = a at *
      have HA := Lib.hid hak
      clear hak
      generalize shF l k = f at *
      have hgr : g < wr.heap.size := Nat.lt_of_lt_of_le hgl hb.size
      have hgr2 : g ≠ wr.heap.size := by omega
      have hb5 : Below wr.heap.size wr (wr.alloc (.cells #[.int .i64 a, .int .i64 f] shiftT)) := bel_alloc _ _
      have hB : Below w.heap.size w (wr.alloc (.cells #[.int .i64 a, .int .i64 f] shiftT)) := hbw.trans ((hb.alloc hb.size _).mono hbw.size)
      have q0 := SW.cell (cells_new wr #[.int .i64 a, .int .i64 f] shiftT 0)
      have q1 := SW.cell (cells_new wr #[.int .i64 a, .int .i64 f] shiftT 1)
      have q2 := SW.cell (hb5.cell (World.block_lt_of_cell? _ _ ((hb.cell (World.block_lt_of_cell? _ _ z1)).trans z1)) |>.trans ((hb.cell (World.block_lt_of_cell? _ _ z1)).trans z1))
      have c1 := cells_new wr #[.int .i64 a, .int .i64 f] shiftT 1
      simp only [List.getElem?_toArray, List.getElem?_cons_zero, List.getElem?_cons_succ] at q0 q1 c1
      have g2 := (hb.cell (World.block_lt_of_cell? _ _ z1)).trans z1
      by_cases n1 : a < 0
      · have ht : timeB a = false := by simp [timeB]; omega
        have d1 : decide (a < 0) = true := decide_eq_true n1
        have HR2 : Hid (errZ o l = 13) := Lib.hid (by rw [HS.out, hbad.out, ht]; rfl)
        clear HS hbad ht hp gm hw0
        go_wp2
        have hNe : Nonempty (Wd (SW (wr.alloc (.cells #[.int .i64 a, .int .i64 f] shiftT)))) := ⟨⟨_, SW.drew _⟩⟩
        refine quietS (S := SW (wr.alloc (.cells #[.int .i64 a, .int .i64 f] shiftT))) (by kernel_rfl) (by kernel_rfl) (SW.drew _) ?_
        repeat (first | go_big_quiet_skip | (go_big_quiet_want; go_big_quiet_op; first | go_big_quiet_on | go_big_quiet_call ((fail))))
        refine wpQuiet_nil ?_
        rintro W ⟨⟨_, hW⟩, rfl⟩
        go_wp2
        go_ret
        exact ⟨by rw [HR2.out]; rfl, hB.trans (hW.mono hB.size)⟩
      by_cases n2 : 52596000 ≤ a
      · have ht : timeB a = false := by simp [timeB]; omega
        have d1 : decide (a < 0) = false := decide_eq_false n1
        have d2 : decide (52596000 ≤ a) = true := decide_eq_true n2
        have HR2 : Hid (errZ o l = 13) := Lib.hid (by rw [HS.out, hbad.out, ht]; rfl)
        clear HS hbad ht hp gm hw0
        go_wp2
        have hNe : Nonempty (Wd (SW (wr.alloc (.cells #[.int .i64 a, .int .i64 f] shiftT)))) := ⟨⟨_, SW.drew _⟩⟩
        refine quietS (S := SW (wr.alloc (.cells #[.int .i64 a, .int .i64 f] shiftT))) (by kernel_rfl) (by kernel_rfl) (SW.drew _) ?_
        repeat (first | go_big_quiet_skip | (go_big_quiet_want; go_big_quiet_op; first | go_big_quiet_on | go_big_quiet_call ((fail))))
        refine wpQuiet_nil ?_
        rintro W ⟨⟨_, hW⟩, rfl⟩
        go_wp2
        go_ret
        exact ⟨by rw [HR2.out]; rfl, hB.trans (hW.mono hB.size)⟩
      have ht : timeB a = true := by simp [timeB]; omega
      have d1 : decide (a < 0) = false := decide_eq_false n1
      have d2 : decide (52596000 ≤ a) = false := decide_eq_false n2
      have ha : 0 ≤ a ∧ a < 52596000 := by omega
      by_cases h0 : 0 < k
      · have q3 := SW.cell ((hb5.cell hgr).trans ((hb.cell hgl).trans (gm h0)))
        have hp' := hp h0
        have i3 : (0 : Int) < (k : Int) := by omega
        have i4 : (0 : Int) ≤ (k : Int) - 1 := by omega
        have i5 : (k : Int) - 1 < (l.length : Int) := by omega
        have i6 : ((k : Int) - 1).toNat = k - 1 := by omega
        generalize shA l (k - 1) = pr at *
        by_cases hg : a - pr < 2880
        · have HR2 : Hid (errZ o l = 13) := Lib.hid (by rw [HS.out, hbad.out, ht]; simp [h0, hg])
          clear HS hbad ht hp gm hw0
          go_wp2
          have hNe : Nonempty (Wd (SW (wr.alloc (.cells #[.int .i64 a, .int .i64 f] shiftT)))) := ⟨⟨_, SW.drew _⟩⟩
          refine quietS (S := SW (wr.alloc (.cells #[.int .i64 a, .int .i64 f] shiftT))) (by kernel_rfl) (by kernel_rfl) (SW.drew _) ?_
          repeat (first | go_big_quiet_skip | (go_big_quiet_want; go_big_quiet_op; first | go_big_quiet_on | go_big_quiet_call ((fail))))
          refine wpQuiet_nil ?_
          rintro W ⟨⟨_, hW⟩, rfl⟩
          go_wp2
          go_ret
          exact ⟨by rw [HR2.out]; rfl, hB.trans (hW.mono hB.size)⟩
        · cases ho : offB f
          · have HR2 : Hid (errZ o l = 2) := Lib.hid (by rw [HS.out, hbad.out, ht]; simp [h0, hg, ho])
            rw [ho] at CO
            clear HS hbad ht hp gm ho hw0
            go_wp2
            have hNe : Nonempty (Wd (SW (wr.alloc (.cells #[.int .i64 a, .int .i64 f] shiftT)))) := ⟨⟨_, SW.drew _⟩⟩
            refine quietS (S := SW (wr.alloc (.cells #[.int .i64 a, .int .i64 f] shiftT))) (by kernel_rfl) (by kernel_rfl) (SW.drew _) ?_
            repeat (first | go_big_quiet_skip | (go_big_quiet_want; go_big_quiet_op; first | go_big_quiet_on | go_big_quiet_call ((fail))))
            refine wpQuiet_nil ?_
            rintro W ⟨⟨_, hW⟩, rfl⟩
            have q4 := q1 ⟨_, hW⟩
            dsimp only at q4
            go_wp2_with (go_at_call 69; refine (CO.out _).mono ?_; rintro e w' ⟨rfl, rfl⟩)
            go_ret
            exact ⟨by rw [HR2.out]; rfl, hB.trans (hW.mono hB.size)⟩
          · have HR2 : Hid (errZ o l = errAt l (l.length - (k + 1)) (k + 1)) := Lib.hid (by rw [HS.out, hbad.out, ht]; simp [h0, hg, ho])
            rw [ho] at CO
            clear HS hbad ht hp gm ho hw0
            go_wp2
            have hNe : Nonempty (Wd (SW (wr.alloc (.cells #[.int .i64 a, .int .i64 f] shiftT)))) := ⟨⟨_, SW.drew _⟩⟩
            refine quietS (S := SW (wr.alloc (.cells #[.int .i64 a, .int .i64 f] shiftT))) (by kernel_rfl) (by kernel_rfl) (SW.drew _) ?_
            repeat (first | go_big_quiet_skip | (go_big_quiet_want; go_big_quiet_op; first | go_big_quiet_on | go_big_quiet_call ((fail))))
            refine wpQuiet_nil ?_
            rintro W ⟨⟨_, hW⟩, rfl⟩
            have q4 := q1 ⟨_, hW⟩
            dsimp only at q4
            go_wp2_with (go_at_call 69; refine (CO.out _).mono ?_; rintro e w' ⟨rfl, rfl⟩)
            go_roundw
            case rel => exact ⟨k + 1, by omega, by go_num, HR2, fun _ => by rw [Nat.add_sub_cancel, HA.out]; exact ha, hb.trans ((hb5.trans (hW.mono hb5.size)).mono hb.size)⟩
            case measure => simp [intOf]; omega
      · have i3 : ¬ (0 : Int) < (k : Int) := by omega
        cases ho : offB f
        · have HR2 : Hid (errZ o l = 2) := Lib.hid (by rw [HS.out, hbad.out, ht]; simp [h0, ho])
          rw [ho] at CO
          clear HS hbad ht hp gm ho hw0
          go_wp2
          have hNe : Nonempty (Wd (SW (wr.alloc (.cells #[.int .i64 a, .int .i64 f] shiftT)))) := ⟨⟨_, SW.drew _⟩⟩
          refine quietS (S := SW (wr.alloc (.cells #[.int .i64 a, .int .i64 f] shiftT))) (by kernel_rfl) (by kernel_rfl) (SW.drew _) ?_
          repeat (first | go_big_quiet_skip | (go_big_quiet_want; go_big_quiet_op; first | go_big_quiet_on | go_big_quiet_call ((fail))))
          refine wpQuiet_nil ?_
          rintro W ⟨⟨_, hW⟩, rfl⟩
          have q4 := q1 ⟨_, hW⟩
          dsimp only at q4
          go_wp2_with (go_at_call 69; refine (CO.out _).mono ?_; rintro e w' ⟨rfl, rfl⟩)
          go_ret
          exact ⟨by rw [HR2.out]; rfl, hB.trans (hW.mono hB.size)⟩
        · have HR2 : Hid (errZ o l = errAt l (l.length - (k + 1)) (k + 1)) := Lib.hid (by rw [HS.out, hbad.out, ht]; simp [h0, ho])
          rw [ho] at CO
          clear HS hbad ht hp gm ho hw0
          go_wp2
          have hNe : Nonempty (Wd (SW (wr.alloc (.cells #[.int .i64 a, .int .i64 f] shiftT)))) := ⟨⟨_, SW.drew _⟩⟩
          refine quietS (S := SW (wr.alloc (.cells #[.int .i64 a, .int .i64 f] shiftT))) (by kernel_rfl) (by kernel_rfl) (SW.drew _) ?_
          repeat (first | go_big_quiet_skip | (go_big_quiet_want; go_big_quiet_op; first | go_big_quiet_on | go_big_quiet_call ((fail))))
          refine wpQuiet_nil ?_
          rintro W ⟨⟨_, hW⟩, rfl⟩
          have q4 := q1 ⟨_, hW⟩
          dsimp only at q4
          go_wp2_with (go_at_call 69; refine (CO.out _).mono ?_; rintro e w' ⟨rfl, rfl⟩)
          go_roundw
          case rel => exact ⟨k + 1, by omega, by go_num, HR2, fun _ => by rw [Nat.add_sub_cancel, HA.out]; exact ha, hb.trans ((hb5.trans (hW.mono hb5.size)).mono hb.size)⟩
          case measure => simp [intOf]; omega
    · have g2 := (hb.cell (World.block_lt_of_cell? _ _ z1)).trans z1
      go_wp2
      go_ret
      exact ⟨by rw [HK.out, show l.length - k = 0 by omega]; rfl, hbw.trans (hb.mono hbw.size)⟩

end Go.Proofs.YtkcdifanhdakhaaDoor
