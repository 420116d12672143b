/- Walks of the reference's times, Exists and Twice. -/
import Derived.Test.YtbkpienklhmgbaaZonE
namespace Go.Proofs.Ytbkpienklhmgbaa
open Go.RowKit Go.Shelf
set_option linter.unusedSimpArgs false
set_option linter.unusedVariables false

theorem seen_no {l : Shs} {x : Int} {k : Nat} (h : ¬ shA l k ≤ x - shF l k) : seen l x k = false := by simp [seen, h]
theorem seen_end {l : Shs} {x : Int} {k : Nat} (h : shA l k ≤ x - shF l k) (h2 : k + 1 = l.length) : seen l x k = true := by simp [seen, h, h2]
theorem seen_mid {l : Shs} {x : Int} {k : Nat} (h : shA l k ≤ x - shF l k) (h2 : ¬ k + 1 = l.length) : seen l x k = decide (x - shF l k < shA l (k + 1)) := by simp [seen, h, h2]
set_option maxRecDepth 100000 in
set_option maxHeartbeats 4000000 in
theorem times_any (o : Int) (A : Option Addr) (c : Nat) (l : Shs) (x : Int) (w : World) (ok : OkZ o l) (hL : ShL w A l) (hu : -1099511627776 ≤ x ∧ x ≤ 1099511627776) :
    Calls Try.prog 27 #[encZ o A l.length c, .int .i64 x] w fun e w' => e = .returned (.int .i64 (tms o l x l.length : Nat)) ∧ Below w.heap.size w w' := by
  have hb0 := bel_alloc w (.cells #[.int .i64 o, .slice A l.length c] zoneT)
  have z0 := cells_new w #[.int .i64 o, .slice A l.length c] zoneT 0
  have z1 := cells_new w #[.int .i64 o, .slice A l.length c] zoneT 1
  simp only [List.getElem?_toArray, List.getElem?_cons_zero, List.getElem?_cons_succ] at z0 z1
  have hL0 := hL.more hb0
  have hl := ok.len
  have ho := ok.off
  have hat := ok.at'
  have hsh := ok.shift
  have q0 := SW.cell z0
  have q1 := SW.cell z1
  clear hL ok
  by_cases hz : l.length = 0
  · have HM : Hid (tms o l x 0 = 1) := Lib.hid (by simp [tms, seen0, hz])
    have d0 : ((l.length : Int) == 0) = true := by rw [beq_iff_eq]; omega
    have HZ := Lib.hid hz
    clear hz
    go_enter Try.func27, Try.ntmps27
    go_wp2
    have hNe : Nonempty (Wd (SW (w.alloc (.cells #[.int .i64 o, .slice A l.length c] zoneT)))) := ⟨⟨_, SW.drew _⟩⟩
    refine quietS (S := SW (w.alloc (.cells #[.int .i64 o, .slice A l.length c] zoneT))) (by kernel_rfl) (by kernel_rfl) (SW.drew _) ?_
    repeat (first | go_big_quiet_skip | (go_big_quiet_want; go_big_quiet_op; first | go_big_quiet_on | go_big_quiet_call ((fail))))
    refine wpQuiet_nil ?_
    rintro W ⟨⟨_, hW⟩, rfl⟩
    go_wp2
    generalize hw0 : w.alloc (.cells #[.int .i64 o, .slice A l.length c] zoneT) = w0 at *
    go_loopw [5, 6] (fun vn vi wr => ∃ (k : Nat), k ≤ l.length ∧ vi = .int .i64 k ∧ vn = .int .i64 (tms o l x k : Nat) ∧ Below w0.heap.size w0 wr) (fun _ vi _ => l.length - (intOf vi).toNat)
    case atStart => exact ⟨0, Nat.zero_le _, rfl, by rw [HM.out]; rfl, hW⟩
    case round =>
      obtain ⟨k, hk, rfl, rfl, hb⟩ := hrel
      have y1 := bel_cell hb z1
      have hle := tms_le o l x k
      by_cases hlt : k < l.length
      · have := HZ.out
        omega
      · obtain rfl : k = l.length := by omega
        go_wp2
        go_ret
        exact ⟨rfl, hb0.trans (hb.mono hb0.size)⟩
  have d0 : ((l.length : Int) == 0) = false := by rw [beq_eq_false_iff_ne]; omega
  obtain ⟨g, off, rfl, hgl, hcc⟩ := hL0.at (k := 0) (by omega)
  have z2 := (hcc 0 (by omega)).1
  have q2' := SW.cell z2
  rw [Nat.zero_mul, Nat.add_zero] at q2'
  have i0 : (0 : Int) < (l.length : Int) := by omega
  clear hL0 z2
  by_cases hs : x - o < shA l 0
  · have HM : Hid (tms o l x 0 = 1) := Lib.hid (by simp [tms, seen0, hs])
    have d1' : decide (x - o < shA l 0) = true := decide_eq_true hs
    clear hz
    go_enter Try.func27, Try.ntmps27
    go_wp2
    have hNe : Nonempty (Wd (SW (w.alloc (.cells #[.int .i64 o, .slice (some ⟨g, off, none⟩) l.length c] zoneT)))) := ⟨⟨_, SW.drew _⟩⟩
    refine quietS (S := SW (w.alloc (.cells #[.int .i64 o, .slice (some ⟨g, off, none⟩) l.length c] zoneT))) (by kernel_rfl) (by kernel_rfl) (SW.drew _) ?_
    repeat (first | go_big_quiet_skip | (go_big_quiet_want; go_big_quiet_op; first | go_big_quiet_on | go_big_quiet_call ((fail))))
    refine wpQuiet_nil ?_
    rintro W ⟨⟨_, hW⟩, rfl⟩
    go_wp2
    generalize hw0 : w.alloc (.cells #[.int .i64 o, .slice (some ⟨g, off, none⟩) l.length c] zoneT) = w0 at *
    go_loopw [5, 6] (fun vn vi wr => ∃ (k : Nat), k ≤ l.length ∧ vi = .int .i64 k ∧ vn = .int .i64 (tms o l x k : Nat) ∧ Below w0.heap.size w0 wr) (fun _ vi _ => l.length - (intOf vi).toNat)
    case atStart => exact ⟨0, Nat.zero_le _, rfl, by rw [HM.out]; rfl, hW⟩
    case round =>
      obtain ⟨k, hk, rfl, rfl, hb⟩ := hrel
      have y1 := bel_cell hb z1
      have hle := tms_le o l x k
      by_cases hlt : k < l.length
      · have i2 : (k : Int) < (l.length : Int) := by omega
        obtain ⟨g0, g1⟩ := hcc k hlt
        have y2 := bel_cell hb g0
        have y3 := bel_cell hb g1
        have ha := hat k hlt
        have hf := hsh k hlt
        have HS : Hid (tms o l x (k + 1) = tms o l x k + if seen l x k then 1 else 0) := Lib.hid rfl
        have hg2 : k + 1 < l.length → w0.cell? ⟨g, off + (k + 1) * 2, none⟩ = some (.int .i64 (shA l (k + 1))) := fun h => (hcc (k + 1) h).1
        have ha2 := fun h => hat (k + 1) h
        have HN : Hid (¬ shA l k ≤ x - shF l k → seen l x k = false) := Lib.hid seen_no
        have HE : Hid (shA l k ≤ x - shF l k → k + 1 = l.length → seen l x k = true) := Lib.hid seen_end
        have HD : Hid (shA l k ≤ x - shF l k → ¬ k + 1 = l.length → seen l x k = decide (x - shF l k < shA l (k + 1))) := Lib.hid seen_mid
        clear hcc hat hsh hw0 q0 q1
        generalize shA l k = a at *
        generalize shF l k = f at *
        generalize shA l (k + 1) = b at *
        generalize tms o l x k = m at *
        by_cases h : a ≤ x - f
        · have d1 : decide (a ≤ x - f) = true := decide_eq_true h
          by_cases h2 : k + 1 = l.length
          · have HR : Hid (tms o l x (k + 1) = m + 1) := Lib.hid (by rw [HS.out, HE.out h h2]; rfl)
            have d2 : (((k : Int) + 1) == (l.length : Int)) = true := by rw [beq_iff_eq]; omega
            clear HS HN HE HD h2 hg2 ha2 z0 z1
            go_wp2
            go_roundw
            case rel => exact ⟨k + 1, by omega, by go_num, by rw [HR.out]; (first | rfl | (congr 1; omega)), hb⟩
            case measure => simp [intOf]; omega
          · have d2 : (((k : Int) + 1) == (l.length : Int)) = false := by rw [beq_eq_false_iff_ne]; omega
            have y4 := bel_cell hb (hg2 (by omega))
            have i3 : (k : Int) + 1 < (l.length : Int) := by omega
            have i4 : ((k : Int) + 1).toNat = k + 1 := by omega
            have hab := ha2 (by omega)
            by_cases h3 : x - f < b
            · have HR : Hid (tms o l x (k + 1) = m + 1) := Lib.hid (by rw [HS.out, HD.out h h2, decide_eq_true h3]; rfl)
              have d3 : decide (x - f < b) = true := decide_eq_true h3
              clear HS HN HE HD h2 hg2 ha2 z0 z1
              go_wp2
              go_roundw
              case rel => exact ⟨k + 1, by omega, by go_num, by rw [HR.out]; (first | rfl | (congr 1; omega)), hb⟩
              case measure => simp [intOf]; omega
            · have HR : Hid (tms o l x (k + 1) = m) := Lib.hid (by rw [HS.out, HD.out h h2, decide_eq_false h3]; rfl)
              have d3 : decide (x - f < b) = false := decide_eq_false h3
              clear HS HN HE HD h2 hg2 ha2 z0 z1
              go_wp2
              go_roundw
              case rel => exact ⟨k + 1, by omega, by go_num, by rw [HR.out], hb⟩
              case measure => simp [intOf]; omega
        · have d1 : decide (a ≤ x - f) = false := decide_eq_false h
          have HR : Hid (tms o l x (k + 1) = m) := Lib.hid (by rw [HS.out, HN.out h]; rfl)
          clear HS HN HE HD hg2 ha2 z0 z1
          go_wp2
          go_roundw
          case rel => exact ⟨k + 1, by omega, by go_num, by rw [HR.out], hb⟩
          case measure => simp [intOf]; omega
      · obtain rfl : k = l.length := by omega
        go_wp2
        go_ret
        exact ⟨rfl, hb0.trans (hb.mono hb0.size)⟩
  · have HM : Hid (tms o l x 0 = 0) := Lib.hid (by simp [tms, seen0, hs, hz])
    have d1' : decide (x - o < shA l 0) = false := decide_eq_false hs
    clear hz
    go_enter Try.func27, Try.ntmps27
    go_wp2
    have hNe : Nonempty (Wd (SW (w.alloc (.cells #[.int .i64 o, .slice (some ⟨g, off, none⟩) l.length c] zoneT)))) := ⟨⟨_, SW.drew _⟩⟩
    refine quietS (S := SW (w.alloc (.cells #[.int .i64 o, .slice (some ⟨g, off, none⟩) l.length c] zoneT))) (by kernel_rfl) (by kernel_rfl) (SW.drew _) ?_
    repeat (first | go_big_quiet_skip | (go_big_quiet_want; go_big_quiet_op; first | go_big_quiet_on | go_big_quiet_call ((fail))))
    refine wpQuiet_nil ?_
    rintro W ⟨⟨_, hW⟩, rfl⟩
    go_wp2
    generalize hw0 : w.alloc (.cells #[.int .i64 o, .slice (some ⟨g, off, none⟩) l.length c] zoneT) = w0 at *
    go_loopw [5, 6] (fun vn vi wr => ∃ (k : Nat), k ≤ l.length ∧ vi = .int .i64 k ∧ vn = .int .i64 (tms o l x k : Nat) ∧ Below w0.heap.size w0 wr) (fun _ vi _ => l.length - (intOf vi).toNat)
    case atStart => exact ⟨0, Nat.zero_le _, rfl, by rw [HM.out]; rfl, hW⟩
    case round =>
      obtain ⟨k, hk, rfl, rfl, hb⟩ := hrel
      have y1 := bel_cell hb z1
      have hle := tms_le o l x k
      by_cases hlt : k < l.length
      · have i2 : (k : Int) < (l.length : Int) := by omega
        obtain ⟨g0, g1⟩ := hcc k hlt
        have y2 := bel_cell hb g0
        have y3 := bel_cell hb g1
        have ha := hat k hlt
        have hf := hsh k hlt
        have HS : Hid (tms o l x (k + 1) = tms o l x k + if seen l x k then 1 else 0) := Lib.hid rfl
        have hg2 : k + 1 < l.length → w0.cell? ⟨g, off + (k + 1) * 2, none⟩ = some (.int .i64 (shA l (k + 1))) := fun h => (hcc (k + 1) h).1
        have ha2 := fun h => hat (k + 1) h
        have HN : Hid (¬ shA l k ≤ x - shF l k → seen l x k = false) := Lib.hid seen_no
        have HE : Hid (shA l k ≤ x - shF l k → k + 1 = l.length → seen l x k = true) := Lib.hid seen_end
        have HD : Hid (shA l k ≤ x - shF l k → ¬ k + 1 = l.length → seen l x k = decide (x - shF l k < shA l (k + 1))) := Lib.hid seen_mid
        clear hcc hat hsh hw0 q0 q1
        generalize shA l k = a at *
        generalize shF l k = f at *
        generalize shA l (k + 1) = b at *
        generalize tms o l x k = m at *
        by_cases h : a ≤ x - f
        · have d1 : decide (a ≤ x - f) = true := decide_eq_true h
          by_cases h2 : k + 1 = l.length
          · have HR : Hid (tms o l x (k + 1) = m + 1) := Lib.hid (by rw [HS.out, HE.out h h2]; rfl)
            have d2 : (((k : Int) + 1) == (l.length : Int)) = true := by rw [beq_iff_eq]; omega
            clear HS HN HE HD h2 hg2 ha2 z0 z1
            go_wp2
            go_roundw
            case rel => exact ⟨k + 1, by omega, by go_num, by rw [HR.out]; (first | rfl | (congr 1; omega)), hb⟩
            case measure => simp [intOf]; omega
          · have d2 : (((k : Int) + 1) == (l.length : Int)) = false := by rw [beq_eq_false_iff_ne]; omega
            have y4 := bel_cell hb (hg2 (by omega))
            have i3 : (k : Int) + 1 < (l.length : Int) := by omega
            have i4 : ((k : Int) + 1).toNat = k + 1 := by omega
            have hab := ha2 (by omega)
            by_cases h3 : x - f < b
            · have HR : Hid (tms o l x (k + 1) = m + 1) := Lib.hid (by rw [HS.out, HD.out h h2, decide_eq_true h3]; rfl)
              have d3 : decide (x - f < b) = true := decide_eq_true h3
              clear HS HN HE HD h2 hg2 ha2 z0 z1
              go_wp2
              go_roundw
              case rel => exact ⟨k + 1, by omega, by go_num, by rw [HR.out]; (first | rfl | (congr 1; omega)), hb⟩
              case measure => simp [intOf]; omega
            · have HR : Hid (tms o l x (k + 1) = m) := Lib.hid (by rw [HS.out, HD.out h h2, decide_eq_false h3]; rfl)
              have d3 : decide (x - f < b) = false := decide_eq_false h3
              clear HS HN HE HD h2 hg2 ha2 z0 z1
              go_wp2
              go_roundw
              case rel => exact ⟨k + 1, by omega, by go_num, by rw [HR.out], hb⟩
              case measure => simp [intOf]; omega
        · have d1 : decide (a ≤ x - f) = false := decide_eq_false h
          have HR : Hid (tms o l x (k + 1) = m) := Lib.hid (by rw [HS.out, HN.out h]; rfl)
          clear HS HN HE HD hg2 ha2 z0 z1
          go_wp2
          go_roundw
          case rel => exact ⟨k + 1, by omega, by go_num, by rw [HR.out], hb⟩
          case measure => simp [intOf]; omega
      · obtain rfl : k = l.length := by omega
        go_wp2
        go_ret
        exact ⟨rfl, hb0.trans (hb.mono hb0.size)⟩

set_option maxRecDepth 100000 in
set_option maxHeartbeats 2000000 in
theorem rexists_any (o : Int) (A : Option Addr) (c : Nat) (l : Shs) (x : Int) (w : World) (ok : OkZ o l) (hL : ShL w A l) (hu : -1099511627776 ≤ x ∧ x ≤ 1099511627776) :
    Calls Try.prog 16 #[encZ o A l.length c, .int .i64 x] w fun e w' => e = .returned (.bool (decide (utcZ o l x ≤ lastZ o l x))) ∧ Below w.heap.size w w' := by
  have hb0 := bel_alloc w (.cells #[.int .i64 o, .slice A l.length c] zoneT)
  have CT := Lib.hid (times_any o A c l x (w.alloc (.cells #[.int .i64 o, .slice A l.length c] zoneT)) ok (hL.more hb0) hu)
  have hle := tms_le o l x l.length
  have hl := ok.len
  have HR := Lib.hid (ex_is ok x)
  clear hL ok
  generalize tms o l x l.length = m at *
  go_enter Try.func16, Try.ntmps16
  go_wp2_with (go_at_call 27; refine CT.out.mono ?_; rintro e w1 ⟨rfl, hb1⟩)
  go_ret
  exact ⟨by rw [HR.out]; exact ret_bool (by rw [decide_eq_decide]; try omega), hb0.trans (hb1.mono hb0.size)⟩

set_option maxRecDepth 100000 in
set_option maxHeartbeats 2000000 in
theorem rtwice_any (o : Int) (A : Option Addr) (c : Nat) (l : Shs) (x : Int) (w : World) (ok : OkZ o l) (hL : ShL w A l) (hu : -1099511627776 ≤ x ∧ x ≤ 1099511627776) :
    Calls Try.prog 18 #[encZ o A l.length c, .int .i64 x] w fun e w' => e = .returned (.bool (decide (utcZ o l x < lastZ o l x))) ∧ Below w.heap.size w w' := by
  have hb0 := bel_alloc w (.cells #[.int .i64 o, .slice A l.length c] zoneT)
  have CT := Lib.hid (times_any o A c l x (w.alloc (.cells #[.int .i64 o, .slice A l.length c] zoneT)) ok (hL.more hb0) hu)
  have hle := tms_le o l x l.length
  have hl := ok.len
  have HR := Lib.hid (tw_is ok x)
  clear hL ok
  generalize tms o l x l.length = m at *
  go_enter Try.func18, Try.ntmps18
  go_wp2_with (go_at_call 27; refine CT.out.mono ?_; rintro e w1 ⟨rfl, hb1⟩)
  go_ret
  exact ⟨by rw [HR.out]; exact ret_bool (by rw [decide_eq_decide]; try omega), hb0.trans (hb1.mono hb0.size)⟩

end Go.Proofs.Ytbkpienklhmgbaa
