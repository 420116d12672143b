/- Walks of zone.Check and the reference's, with the words for a zone in memory. -/
import Derived.Test.YtjokpfeiganigaaDoorRows
import Derived.Test.YtjokpfeiganigaaDoorMem
import Derived.Test.YtjokpfeiganigaaDoorCalD
import Derived.Test.YtjokpfeiganigaaDoorZonP
import Derived.OwnWalk
import Derived.IntWalk
import Derived.Deep.QuietTactic
import Derived.BigQuiet
namespace Go.Proofs.YtjokpfeiganigaaDoor
open Go.RowKit
set_option linter.unusedSimpArgs false
set_option linter.unusedVariables false

theorem bel_alloc (w : World) (o : Obj) : Below w.heap.size w (w.alloc o) := (Below.refl _ w).alloc (Nat.le_refl _) o
theorem bel_acc {f : Nat} {args : Array Value} {w w1 : World} {R : Ending → Prop} (h : Calls Tryd.prog f args w1 fun e w' => R e ∧ Below w1.heap.size w1 w') (hb : Below w.heap.size w w1) :
    Calls Tryd.prog f args w1 fun e w' => R e ∧ Below w.heap.size w w' := h.mono (by rintro e w' ⟨hr, h⟩; exact ⟨hr, hb.trans (h.mono hb.size)⟩)
abbrev zoneT : TypeId := 33
abbrev shiftT : TypeId := 75
/-- the shifts l lie in the row at A -/
def ShL (w : World) (A : Option Addr) (l : Shs) : Prop :=
  l = [] ∨ ∃ b o, A = some ⟨b, o, none⟩ ∧ b < w.heap.size ∧ ∀ i, i < l.length → w.cell? ⟨b, o + i * 2, none⟩ = some (.int .i64 (shA l i)) ∧ w.cell? ⟨b, o + i * 2 + 1, none⟩ = some (.int .i64 (shF l i))
theorem ShL.more {w w' : World} {A : Option Addr} {l : Shs} (h : ShL w A l) (hb : Below w.heap.size w w') : ShL w' A l := by
  rcases h with h | ⟨b, o, rfl, hlt, hc⟩
  · exact .inl h
  · exact .inr ⟨b, o, rfl, Nat.lt_of_lt_of_le hlt hb.size, fun i hi => ⟨(hb.cell (p := ⟨b, o + i * 2, none⟩) hlt).trans (hc i hi).1, (hb.cell (p := ⟨b, o + i * 2 + 1, none⟩) hlt).trans (hc i hi).2⟩⟩
theorem ShL.at {w : World} {A : Option Addr} {l : Shs} (h : ShL w A l) {k : Nat} (hk : k < l.length) :
    ∃ b o, A = some ⟨b, o, none⟩ ∧ b < w.heap.size ∧ ∀ i, i < l.length → w.cell? ⟨b, o + i * 2, none⟩ = some (.int .i64 (shA l i)) ∧ w.cell? ⟨b, o + i * 2 + 1, none⟩ = some (.int .i64 (shF l i)) := by
  rcases h with h | h
  · rw [h] at hk; simp at hk
  · exact h
abbrev encZ (o : Int) (A : Option Addr) (n c : Nat) : Value := .agg #[.int .i64 o, .slice A n c]

set_option maxHeartbeats 400000 in
theorem isOff_any (n : Int) (w : World) : Calls Tryd.prog 96 #[.int .i64 n] w fun e w' => e = .returned (.bool (offB n)) ∧ w = w' := by
  by_cases h1 : -840 ≤ n
  all_goals
    go_enter Tryd.func96, Tryd.ntmps96
    go_wp2
    go_ret
    exact ⟨ret_bool (by simp [offB]; omega), rfl⟩
set_option maxHeartbeats 400000 in
theorem rOff_any (n : Int) (w : World) : Calls Tryd.prog 99 #[.int .i64 n] w fun e w' => e = .returned (.bool (offB n)) ∧ w = w' := by
  by_cases h1 : -840 ≤ n
  all_goals
    go_enter Tryd.func99, Tryd.ntmps99
    go_wp2
    go_ret
    exact ⟨ret_bool (by simp [offB]; omega), rfl⟩
def timeB (n : Int) : Bool := decide (0 ≤ n) && decide (n < 52596000)
set_option maxHeartbeats 400000 in
theorem isTime_any (n : Int) (w : World) (h0 : -9223372036854775808 ≤ n) (h1 : n ≤ 9223372036854775807) : Calls Tryd.prog 97 #[.int .i64 n] w fun e w' => e = .returned (.bool (timeB n)) ∧ Below w.heap.size w w' := by
  have CS := Lib.hid (fun w => split_any n w h0 h1)
  obtain ⟨d, hd⟩ : ∃ d, d = n / 1440 := ⟨_, rfl⟩
  obtain ⟨m, hm⟩ : ∃ m, m = n % 1440 := ⟨_, rfl⟩
  rw [← hd, ← hm] at CS
  have HT : Hid (timeB n = (decide (0 ≤ d) && decide (d < 36525))) := Lib.hid (by
    simp only [timeB]
    rw [Bool.eq_iff_iff]
    simp
    omega)
  clear hd hm
  by_cases h2 : (0 : Int) ≤ d
  · go_enter Tryd.func97, Tryd.ntmps97
    go_wp2_with (go_at_call 120; refine (CS.out _).mono ?_; rintro e w' ⟨rfl, hb⟩)
    go_ret
    exact ⟨ret_bool (by rw [HT.out]; simp; omega), hb⟩
  · go_enter Tryd.func97, Tryd.ntmps97
    go_wp2_with (go_at_call 120; refine (CS.out _).mono ?_; rintro e w' ⟨rfl, hb⟩)
    go_ret
    exact ⟨ret_bool (by rw [HT.out]; simp; omega), hb⟩

/-! ### worlds that have only grown since w5, as a class: quiet walks of drawn regions -/
abbrev SW (w5 : World) : World → Prop := fun W => Below w5.heap.size w5 W
structure Wd (S : World → Prop) where
  w : World
  ok : S w
theorem quietS {P : Program} {S : World → Prop} {id : Nat} {Q : Exit → Act → World → Prop} {a : Act} {w : World} {l : List Oper} (hm : P.follows .mixedOrders = true) (hB : Region.lexB .any l.toArray = true) (hC : S w.drew)
    (h : wpQuiet P l.toArray (fun w' => ∃ x : Wd S, w' = x.w) (fun a' => ∀ w', (∃ x : Wd S, w' = x.w) → Q .normal a' w') l a) : (Code.region id l.toArray true).wp P Q a w :=
  wp_region_quiet (C := fun w' => ∃ x : Wd S, w' = x.w) hm hB ⟨⟨_, hC⟩, rfl⟩ (by simpa using h)
theorem quiet_S {P : Program} {f : FuncId} {args : Array Value} {W : World} {S : World → Prop} {v : Value} (h : Calls P f args W fun e w' => e = .returned v ∧ S w') :
    Calls P f args W fun e w'' => e = .returned v ∧ ∃ x : Wd S, w'' = x.w := h.mono (by rintro e w' ⟨he, hs⟩; exact ⟨he, ⟨w', hs⟩, rfl⟩)
theorem SW.cell {w5 : World} {a : Addr} {v : Value} (h : w5.cell? a = some v) (x : Wd (SW w5)) : x.w.cell? a = some v := (Below.cell (show Below w5.heap.size w5 x.w from x.ok) (World.block_lt_of_cell? w5 _ h)).trans h
theorem SW.call {f : Nat} {args : Array Value} {w5 : World} {v : Value} (h : ∀ W, Below w5.heap.size w5 W → Calls Tryd.prog f args W fun e w' => e = .returned v ∧ Below W.heap.size W w') (W : World) (hW : SW w5 W) :
    Calls Tryd.prog f args W fun e w' => e = .returned v ∧ SW w5 w' := (h W hW).mono (by rintro e w' ⟨he, hb⟩; exact ⟨he, hW.trans (hb.mono hW.size)⟩)
theorem SW.drew (w5 : World) : SW w5 w5.drew := (Below.refl _ _).drew
theorem cells_new (w : World) (cs : Array Value) (t : TypeId) (j : Nat) : (w.alloc (.cells cs t)).cell? ⟨w.heap.size, j, none⟩ = cs[j]? := cell_of_row _ _ j _ _ (0, 0) (heap_alloc_new w (.cells cs t))

set_option maxRecDepth 100000 in
set_option maxHeartbeats 2000000 in
theorem check_any (o : Int) (A : Option Addr) (c : Nat) (l : Shs) (w : World) (hl : l.length < 9223372036854775808) (hL : ShL w A l) (hr : ∀ k, k < l.length → -9223372036854775808 ≤ shA l k ∧ shA l k ≤ 9223372036854775807) :
    Calls Tryd.prog 66 #[encZ o A l.length c] w fun e w' => e = .returned (.int .i64 (errZ o l)) ∧ Below w.heap.size w w' := by
  by_cases h1 : 256 < l.length
  · have i1 : (256 : Int) < (l.length : Int) := by omega
    have HR : Hid (errZ o l = 4) := Lib.hid (by rw [errZ, if_pos h1])
    clear h1
    go_enter Tryd.func66, Tryd.ntmps66
    go_wp2
    go_ret
    exact ⟨by rw [HR.out]; rfl, bel_alloc _ _⟩
  have i1 : (l.length : Int) ≤ 256 := by omega
  cases ho : offB o
  · have HR : Hid (errZ o l = 2) := Lib.hid (by rw [errZ, if_neg h1, ho]; rfl)
    have C1 := Lib.hid (fun w => ho ▸ isOff_any o w)
    clear h1 ho
    go_enter Tryd.func66, Tryd.ntmps66
    go_wp2_with (go_at_call 96; refine (C1.out _).mono ?_; rintro e w' ⟨rfl, rfl⟩)
    go_ret
    exact ⟨by rw [HR.out]; rfl, bel_alloc _ _⟩
  have HR : Hid (errZ o l = errAt l l.length 0) := Lib.hid (by rw [errZ, if_neg h1, ho]; rfl)
  have C1 := Lib.hid (fun w => ho ▸ isOff_any o w)
  clear h1 ho
  go_enter Tryd.func66, Tryd.ntmps66
  go_wp2_with (go_at_call 96; refine (C1.out _).mono ?_; rintro e w' ⟨rfl, rfl⟩)
  have hL0 := hL.more (bel_alloc w (.cells #[.int .i64 o, .slice A l.length c] zoneT))
  have z0 := cells_new w #[.int .i64 o, .slice A l.length c] zoneT 0
  have z1 := cells_new w #[.int .i64 o, .slice A l.length c] zoneT 1
  have hbw := bel_alloc w (.cells #[.int .i64 o, .slice A l.length c] zoneT)
  simp only [List.getElem?_toArray, List.getElem?_cons_zero, List.getElem?_cons_succ] at z0 z1
  clear hL C1
  generalize hw0 : w.alloc (.cells #[.int .i64 o, .slice A l.length c] zoneT) = w0 at *
  go_loopw [16] (fun vi wr => ∃ k : Nat, k ≤ l.length ∧ vi = .int .i64 k ∧ Hid (errZ o l = errAt l (l.length - k) k) ∧ (0 < k → 0 ≤ shA l (k - 1) ∧ shA l (k - 1) < 52596000) ∧ Below w0.heap.size w0 wr) (fun vi _ => l.length - (intOf vi).toNat)
  case atStart => exact ⟨0, Nat.zero_le _, rfl, HR, by omega, Below.refl _ _⟩
  case round =>
    obtain ⟨k, hk, rfl, HK, hp, hb⟩ := hrel
    by_cases hlt : k < l.length
    · obtain ⟨g, off, rfl, hgl, hcc⟩ := hL0.at hlt
      have i2 : (k : Int) < (l.length : Int) := by omega
      have HS := Lib.hid (HK.out.trans (errAt_step l k _ rfl hlt))
      obtain ⟨g0, g1⟩ := hcc k hlt
      have hrk := hr k hlt
      have CT := Lib.hid (fun W => isTime_any (shA l k) W hrk.1 hrk.2)
      have CO := Lib.hid (fun W => isOff_any (shF l k) W)
      have gm : 0 < k → w0.cell? ⟨g, off + (k - 1) * 2, none⟩ = some (.int .i64 (shA l (k - 1))) := fun h => (hcc (k - 1) (by omega)).1
      have hbad : Hid (badT l k = (!timeB (shA l k) || (decide (0 < k) && decide (shA l k - shA l (k - 1) < 2880)))) := Lib.hid (by
        simp only [badT, timeB]
        congr 1
        rw [Bool.eq_iff_iff]; simp)
      clear hcc HK hr hL0
      have gk0 := (hb.cell (p := ⟨g, off + k * 2, none⟩) hgl).trans g0
      have gk1 := (hb.cell (p := ⟨g, off + k * 2 + 1, none⟩) hgl).trans g1
      generalize hak : shA l k = a at *
      have HA := Lib.hid hak
      clear hak
      generalize shF l k = f at *
      have hgr : g < wr.heap.size := Nat.lt_of_lt_of_le hgl hb.size
      have hgr2 : g ≠ wr.heap.size := by omega
      have hb5 : Below wr.heap.size wr (wr.alloc (.cells #[.int .i64 a, .int .i64 f] shiftT)) := bel_alloc _ _
      have hB : Below w.heap.size w (wr.alloc (.cells #[.int .i64 a, .int .i64 f] shiftT)) := hbw.trans ((hb.alloc hb.size _).mono hbw.size)
      have q0 := SW.cell (cells_new wr #[.int .i64 a, .int .i64 f] shiftT 0)
      have q1 := SW.cell (cells_new wr #[.int .i64 a, .int .i64 f] shiftT 1)
      have q2 := SW.cell (hb5.cell (World.block_lt_of_cell? _ _ ((hb.cell (World.block_lt_of_cell? _ _ z1)).trans z1)) |>.trans ((hb.cell (World.block_lt_of_cell? _ _ z1)).trans z1))
      have c1 := cells_new wr #[.int .i64 a, .int .i64 f] shiftT 1
      simp only [List.getElem?_toArray, List.getElem?_cons_zero, List.getElem?_cons_succ] at q0 q1 c1
      have KT := Lib.hid (SW.call (w5 := wr.alloc (.cells #[.int .i64 a, .int .i64 f] shiftT)) (fun W _ => CT.out W))
      cases ht : timeB a
      · have HR2 : Hid (errZ o l = 13) := Lib.hid (by rw [HS.out, hbad.out, ht]; rfl)
        rw [ht] at KT
        clear HS hbad ht hp gm hw0
        go_wp2
        have hNe : Nonempty (Wd (SW (wr.alloc (.cells #[.int .i64 a, .int .i64 f] shiftT)))) := ⟨⟨_, SW.drew _⟩⟩
        refine quietS (S := SW (wr.alloc (.cells #[.int .i64 a, .int .i64 f] shiftT))) (by kernel_rfl) (by kernel_rfl) (SW.drew _) ?_
        repeat (first | go_big_quiet_skip | (go_big_quiet_want; go_big_quiet_op; first | go_big_quiet_on | go_big_quiet_call (((go_at_call 97; (with_reducible exact quiet_S (KT.out _ (Wd.ok _))))))))
        refine wpQuiet_nil ?_
        rintro W ⟨⟨_, hW⟩, rfl⟩
        go_wp2
        go_ret
        exact ⟨by rw [HR2.out]; rfl, hB.trans (hW.mono hB.size)⟩
      rw [ht] at KT
      have ha : 0 ≤ a ∧ a < 52596000 := by simpa [timeB] using ht
      by_cases h0 : 0 < k
      · have q3 := SW.cell ((hb5.cell hgr).trans ((hb.cell hgl).trans (gm h0)))
        have hp' := hp h0
        have i3 : (0 : Int) < (k : Int) := by omega
        have i4 : (0 : Int) ≤ (k : Int) - 1 := by omega
        have i5 : (k : Int) - 1 < (l.length : Int) := by omega
        have i6 : ((k : Int) - 1).toNat = k - 1 := by omega
        generalize shA l (k - 1) = pr at *
        by_cases hg : a - pr < 2880
        · have HR2 : Hid (errZ o l = 13) := Lib.hid (by rw [HS.out, hbad.out, ht]; simp [h0, hg])
          clear HS hbad ht hp gm hw0
          go_wp2
          have hNe : Nonempty (Wd (SW (wr.alloc (.cells #[.int .i64 a, .int .i64 f] shiftT)))) := ⟨⟨_, SW.drew _⟩⟩
          refine quietS (S := SW (wr.alloc (.cells #[.int .i64 a, .int .i64 f] shiftT))) (by kernel_rfl) (by kernel_rfl) (SW.drew _) ?_
          repeat (first | go_big_quiet_skip | (go_big_quiet_want; go_big_quiet_op; first | go_big_quiet_on | go_big_quiet_call (((go_at_call 97; (with_reducible exact quiet_S (KT.out _ (Wd.ok _))))))))
          refine wpQuiet_nil ?_
          rintro W ⟨⟨_, hW⟩, rfl⟩
          go_wp2
          go_ret
          exact ⟨by rw [HR2.out]; rfl, hB.trans (hW.mono hB.size)⟩
        · cases ho : offB f
          · have HR2 : Hid (errZ o l = 2) := Lib.hid (by rw [HS.out, hbad.out, ht]; simp [h0, hg, ho])
            rw [ho] at CO
            clear HS hbad ht hp gm ho hw0
            go_wp2
            have hNe : Nonempty (Wd (SW (wr.alloc (.cells #[.int .i64 a, .int .i64 f] shiftT)))) := ⟨⟨_, SW.drew _⟩⟩
            refine quietS (S := SW (wr.alloc (.cells #[.int .i64 a, .int .i64 f] shiftT))) (by kernel_rfl) (by kernel_rfl) (SW.drew _) ?_
            repeat (first | go_big_quiet_skip | (go_big_quiet_want; go_big_quiet_op; first | go_big_quiet_on | go_big_quiet_call (((go_at_call 97; (with_reducible exact quiet_S (KT.out _ (Wd.ok _))))))))
            refine wpQuiet_nil ?_
            rintro W ⟨⟨_, hW⟩, rfl⟩
            have q4 := q1 ⟨_, hW⟩
            dsimp only at q4
            go_wp2_with (go_at_call 96; refine (CO.out _).mono ?_; rintro e w' ⟨rfl, rfl⟩)
            go_ret
            exact ⟨by rw [HR2.out]; rfl, hB.trans (hW.mono hB.size)⟩
          · have HR2 : Hid (errZ o l = errAt l (l.length - (k + 1)) (k + 1)) := Lib.hid (by rw [HS.out, hbad.out, ht]; simp [h0, hg, ho])
            rw [ho] at CO
            clear HS hbad ht hp gm ho hw0
            go_wp2
            have hNe : Nonempty (Wd (SW (wr.alloc (.cells #[.int .i64 a, .int .i64 f] shiftT)))) := ⟨⟨_, SW.drew _⟩⟩
            refine quietS (S := SW (wr.alloc (.cells #[.int .i64 a, .int .i64 f] shiftT))) (by kernel_rfl) (by kernel_rfl) (SW.drew _) ?_
            repeat (first | go_big_quiet_skip | (go_big_quiet_want; go_big_quiet_op; first | go_big_quiet_on | go_big_quiet_call (((go_at_call 97; (with_reducible exact quiet_S (KT.out _ (Wd.ok _))))))))
            refine wpQuiet_nil ?_
            rintro W ⟨⟨_, hW⟩, rfl⟩
            have q4 := q1 ⟨_, hW⟩
            dsimp only at q4
            go_wp2_with (go_at_call 96; refine (CO.out _).mono ?_; rintro e w' ⟨rfl, rfl⟩)
            go_roundw
            case rel => exact ⟨k + 1, by omega, by go_num, HR2, fun _ => by rw [Nat.add_sub_cancel, HA.out]; exact ha, hb.trans ((hb5.trans (hW.mono hb5.size)).mono hb.size)⟩
            case measure => simp [intOf]; omega
      · have i3 : ¬ (0 : Int) < (k : Int) := by omega
        cases ho : offB f
        · have HR2 : Hid (errZ o l = 2) := Lib.hid (by rw [HS.out, hbad.out, ht]; simp [h0, ho])
          rw [ho] at CO
          clear HS hbad ht hp gm ho hw0
          go_wp2
          have hNe : Nonempty (Wd (SW (wr.alloc (.cells #[.int .i64 a, .int .i64 f] shiftT)))) := ⟨⟨_, SW.drew _⟩⟩
          refine quietS (S := SW (wr.alloc (.cells #[.int .i64 a, .int .i64 f] shiftT))) (by kernel_rfl) (by kernel_rfl) (SW.drew _) ?_
          repeat (first | go_big_quiet_skip | (go_big_quiet_want; go_big_quiet_op; first | go_big_quiet_on | go_big_quiet_call (((go_at_call 97; (with_reducible exact quiet_S (KT.out _ (Wd.ok _))))))))
          refine wpQuiet_nil ?_
          rintro W ⟨⟨_, hW⟩, rfl⟩
          have q4 := q1 ⟨_, hW⟩
          dsimp only at q4
          go_wp2_with (go_at_call 96; refine (CO.out _).mono ?_; rintro e w' ⟨rfl, rfl⟩)
          go_ret
          exact ⟨by rw [HR2.out]; rfl, hB.trans (hW.mono hB.size)⟩
        · have HR2 : Hid (errZ o l = errAt l (l.length - (k + 1)) (k + 1)) := Lib.hid (by rw [HS.out, hbad.out, ht]; simp [h0, ho])
          rw [ho] at CO
          clear HS hbad ht hp gm ho hw0
          go_wp2
          have hNe : Nonempty (Wd (SW (wr.alloc (.cells #[.int .i64 a, .int .i64 f] shiftT)))) := ⟨⟨_, SW.drew _⟩⟩
          refine quietS (S := SW (wr.alloc (.cells #[.int .i64 a, .int .i64 f] shiftT))) (by kernel_rfl) (by kernel_rfl) (SW.drew _) ?_
          repeat (first | go_big_quiet_skip | (go_big_quiet_want; go_big_quiet_op; first | go_big_quiet_on | go_big_quiet_call (((go_at_call 97; (with_reducible exact quiet_S (KT.out _ (Wd.ok _))))))))
          refine wpQuiet_nil ?_
          rintro W ⟨⟨_, hW⟩, rfl⟩
          have q4 := q1 ⟨_, hW⟩
          dsimp only at q4
          go_wp2_with (go_at_call 96; refine (CO.out _).mono ?_; rintro e w' ⟨rfl, rfl⟩)
          go_roundw
          case rel => exact ⟨k + 1, by omega, by go_num, HR2, fun _ => by rw [Nat.add_sub_cancel, HA.out]; exact ha, hb.trans ((hb5.trans (hW.mono hb5.size)).mono hb.size)⟩
          case measure => simp [intOf]; omega
    · go_wp2
      go_ret
      exact ⟨by rw [HK.out, show l.length - k = 0 by omega]; rfl, hbw.trans (hb.mono hbw.size)⟩

end Go.Proofs.YtjokpfeiganigaaDoor
