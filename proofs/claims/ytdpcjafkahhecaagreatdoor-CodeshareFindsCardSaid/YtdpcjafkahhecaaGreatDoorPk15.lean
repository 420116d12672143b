/- Words and walks that the laws below ask: ShrK, ShrL, GivM. -/
import Derived.RangeFuncNested
import Derived.RangeFuncBound
import Derived.RangeFuncWrites
import Derived.RangeFuncCalls
import Derived.Test.YtdpcjafkahhecaaGreatDoorPk9
import Derived.Test.YtdpcjafkahhecaaGreatDoorPk14
/- enter: an entry on all days of a period. -/
namespace Go.Proofs.YtdpcjafkahhecaaGreatDoor
open Go.RowKit Go.Shelf Go.Maps
set_option linter.unusedSimpArgs false
set_option linter.unusedVariables false

theorem zeroLgM (w : World) : (zeroValue 109).run Tryz.prog w = .ok (.map none) w := by kernel_rfl
theorem zeroBoM (w : World) : (zeroValue 116).run Tryz.prog w = .ok (.map none) w := by kernel_rfl
set_option maxRecDepth 100000 in
set_option maxHeartbeats 8000000 in
theorem enterL_any (b lo n : Nat) (g : ByteArray × Int → Option Value) (T : ByteArray × Int → Int → Option Value) (car : ByteArray) (num pf pt pd : Int) (u : Value) (w : World) (h : TV w b lo n g T) (hn : n ≤ 1000) (hlo : lo ≤ w.heap.size) (hcar : car.size ≤ maxLen) (hnum : (Lit.int .i64 num).wf = true) :
    Calls Tryz.prog 31 #[.map (some b), .agg #[.string car, .int .i64 num], .agg #[.int .i64 pf, .int .i64 pt, .int .i64 pd], u] w fun e w' => (∃ v, e = .returned v) ∧ (∃ g', TV w' b lo (n + 1) g' (enP T (car, num) (Per.daysQ (pf, pt, pd)) u)) ∧ But w w' (MapX w lo) := by
  obtain ⟨kl, hkey⟩ := key_nameC (car, num) hcar hnum
  have hmm := @run_makeMap Tryz.prog
  have hb1 := bel_alloc w (.cells #[.string car, .int .i64 num] cnT)
  have hb2 := bel_alloc (w.alloc (.cells #[.string car, .int .i64 num] cnT)) (.cells #[.int .i64 pf, .int .i64 pt, .int .i64 pd] 58)
  have hb0 := hb1.trans (hb2.mono hb1.size)
  have n0 := bel_cell hb2 ((cells_new w #[.string car, .int .i64 num] cnT 0).trans (show _ = some (Value.string car) from rfl))
  have n1 := bel_cell hb2 ((cells_new w #[.string car, .int .i64 num] cnT 1).trans (show _ = some (Value.int .i64 num) from rfl))
  have p2 := (cells_new (w.alloc (.cells #[.string car, .int .i64 num] cnT)) #[.int .i64 pf, .int .i64 pt, .int .i64 pd] 58 0).trans (show _ = some (Value.int .i64 pf) from rfl)
  have p3 := (cells_new (w.alloc (.cells #[.string car, .int .i64 num] cnT)) #[.int .i64 pf, .int .i64 pt, .int .i64 pd] 58 1).trans (show _ = some (Value.int .i64 pt) from rfl)
  have p4 := (cells_new (w.alloc (.cells #[.string car, .int .i64 num] cnT)) #[.int .i64 pf, .int .i64 pt, .int .i64 pd] 58 2).trans (show _ = some (Value.int .i64 pd) from rfl)
  rw [World.size_alloc] at p2 p3 p4
  have H5 := Lib.hid (h.more hb0)
  have HB0 := Lib.hid hb0
  have HX0 : Hid (MapX w lo b) := Lib.hid (h.map.isX h.hlo)
  have HIN := Lib.hid (fun B (hv : g (car, num) = some (.map (some B))) => (show MapX w lo B by
    obtain ⟨b', m, e, h1, _, _, h4⟩ := h.inn _ _ hv
    cases e
    exact h4.isX h1))
  have hsz5 : w.heap.size + 1 < ((w.alloc (.cells #[.string car, .int .i64 num] cnT)).alloc (.cells #[.int .i64 pf, .int .i64 pt, .int .i64 pd] 58)).heap.size := by simp
  obtain ⟨D, hD⟩ : ∃ D, D = Per.daysQ (pf, pt, pd) := ⟨_, rfl⟩
  have HBD : Hid (∀ d ∈ D, 0 ≤ d ∧ d < 36525) := Lib.hid (by rw [hD]; exact fun d => days_bd)
  have hDl : D.length ≤ 800 := by rw [hD]; exact Per.daysQ_len _
  have KD := Lib.hid (pdays_any pf pt pd)
  rw [← hD] at KD
  rw [← hD]
  have HKEY := Lib.hid hkey
  clear hD h hb1 hb2 hb0 hcar hnum hkey
  go_enter Tryz.func31, Tryz.ntmps31
  go_upto_region 1 with fail
  generalize hw5 : ((w.alloc (.cells #[.string car, .int .i64 num] cnT)).alloc (.cells #[.int .i64 pf, .int .i64 pt, .int .i64 pd] 58)) = w5 at *
  clear hw5
  cases hg : g (car, num) with
  | some v =>
    obtain ⟨B, m, rfl, hm, hti⟩ := H5.out.start hg
    have hl0 : (Instr.lookup 64 (.map (some b)) (.agg #[.string car, .int .i64 num]) false).run Tryz.prog w5 = .ok (.map (some B)) w5 := by
      have h := H5.out.map.look nameKC Tryz.underlying64 (zeroLgM w5) HKEY.out false
      rw [hg] at h
      exact h
    have hnl : (binOp .eql 109 (.map (some B)) (.map none)).run Tryz.prog w5 = .ok (.bool false) w5 := by kernel_rfl
    have HTI := Lib.hid hti
    have HBT : Hid (But w w5 (MapX w lo)) := Lib.hid (But.of_below HB0.out)
    have HXB : Hid (B < w.heap.size → MapX w lo B) := Lib.hid (fun _ => HIN.out B hg)
    clear hti hg
    go_wp2_with (go_at_call 61; refine (KD.out _).mono ?_; rintro e w7 ⟨v7, rfl, hI, hbd⟩; obtain ⟨A7, c7, rfl, _⟩ := id hI)
    have HI := Lib.hid hI
    have HTI7 := Lib.hid (HTI.out.more hbd)
    have HBT7 := Lib.hid (HBT.out.trans (But.of_below (X := MapX w lo) hbd) (fun _ _ h => h))
    have N0 := Lib.hid (bel_cell hbd n0)
    have N1 := Lib.hid (bel_cell hbd n1)
    have hBl := HTI7.out.row.lt
    clear p2 p3 p4 n0 n1 hI hbd HTI HBT KD
    go_loopw [20] (fun vi wr => ∃ k : Nat, k ≤ D.length ∧ vi = .int .i64 k ∧ Hid (TW wr b lo n g T (car, num) B (m + k) (fun d => if d ∈ D.take k then some u else T (car, num) d) ∧ But w7 wr (fun k => k = B))) (fun vi _ => D.length - (intOf vi).toNat)
    case atStart => exact ⟨0, Nat.zero_le _, rfl, Lib.hid ⟨by simpa using HTI7.out, But.refl _ _⟩⟩
    case round =>
      obtain ⟨k, hk, rfl, HK⟩ := hrel
      obtain ⟨hti, hbt⟩ := HK.out
      by_cases hlt : k < D.length
      · obtain ⟨d, hd⟩ : ∃ d, D[k]? = some d := ⟨_, List.getElem?_eq_getElem hlt⟩
        have i2 : (k : Int) < (D.length : Int) := by omega
        obtain ⟨b2, o2, rfl, hb2, hc2⟩ := IntL.at1 HI.out hlt
        have hd0' := (hc2 k hlt).trans (congrArg (fun x => some (Value.int .i64 x)) (List.getElem?_eq_some_iff.1 hd).2)
        have hd0 := but_cell hbt hd0' (cell_ne_map hd0' HTI7.out.row)
        have n0 := but_cell hbt N0.out (cell_ne_map N0.out HTI7.out.row)
        have n1 := but_cell hbt N1.out (cell_ne_map N1.out HTI7.out.row)
        have hdb := HBD.out d (List.mem_of_getElem? hd)
        have hdw : (Lit.int .i64 d).wf = true := by
          have e1 : IntKind.i64.min = -9223372036854775808 := rfl
          have e2 : IntKind.i64.max = 9223372036854775807 := rfl
          simp only [Lit.wf, e1, e2, Bool.and_eq_true, decide_eq_true_eq]
          omega
        have hl1 : (Instr.lookup 64 (.map (some b)) (.agg #[.string car, .int .i64 num]) false).run Tryz.prog wr = .ok (.map (some B)) wr := by
          have h := hti.map.look nameKC Tryz.underlying64 (zeroLgM wr) HKEY.out false
          rw [hti.here] at h
          exact h
        have HTK := Lib.hid hti
        have HBK := Lib.hid hbt
        have HDW := Lib.hid hdw
        have HU : Hid ((fun d' => if d' = d then some u else if d' ∈ D.take k then some u else T (car, num) d') = fun d' => if d' ∈ D.take (k + 1) then some u else T (car, num) d') := Lib.hid (by
          funext d'
          obtain ⟨hk2, rfl⟩ := List.getElem?_eq_some_iff.1 hd
          rw [show List.take (k + 1) D = List.take k D ++ [D[k]] from (List.take_append_getElem hk2).symm]
          by_cases e : d' = D[k]
          · rw [if_pos e, if_pos (List.mem_append_right _ (List.mem_singleton.2 e))]
          · rw [if_neg e]
            by_cases e2 : d' ∈ D.take k
            · rw [if_pos e2, if_pos (List.mem_append_left _ e2)]
            · rw [if_neg e2, if_neg (fun h => (List.mem_append.1 h).elim e2 (fun h => e (List.mem_singleton.1 h)))])
        have hnm : m + k < maxLen := by unfold maxLen; omega
        clear hti hbt HK hd hc2 hd0' hdb hdw
        have hm9 := HTK.out.row
        go_wp2_with (at_mapUpdate; refine wpList_put rfl _ _ _ 109 rfl dayK enI_inj Tryz.underlying109 rfl hm9 hnm d _ rfl (key_day d HDW.out) ?_; intro w9 hm10 hg9)
        go_roundw
        case rel =>
          have hput := HTK.out.put hm10 hg9
          have hU := HU.out
          exact ⟨k + 1, by omega, by go_num, Lib.hid ⟨hU ▸ hput, HBK.out.trans (But.of_grown (X := fun k => k = B) hg9 rfl) (fun _ _ h => h)⟩⟩
        case measure => simp [intOf]; omega
      · have hk' : k = D.length := by omega
        have i2 : ¬ (k : Int) < (D.length : Int) := by omega
        rw [hk', List.take_length] at hti
        have hfin := hti.stop (T' := enP T (car, num) D u) (by omega) (by funext d; unfold enP; by_cases e : d ∈ D <;> simp [e]) (fun c' hc' => by funext d; unfold enP; simp [hc'])
        have hbu := HBT7.out.trans hbt (fun k hk e => by rw [e] at hk ⊢; exact HXB.out hk)
        clear hti hbt hk'
        go_wp2
        exact bodyPost_end (results_none rfl _ _ _) rfl ⟨⟨_, rfl⟩, ⟨_, hfin⟩, hbu⟩
  | none =>
    have hl0 : (Instr.lookup 64 (.map (some b)) (.agg #[.string car, .int .i64 num]) false).run Tryz.prog w5 = .ok (.map none) w5 := by
      have h := H5.out.map.look nameKC Tryz.underlying64 (zeroLgM w5) HKEY.out false
      rw [hg] at h
      exact h
    have hnl : (binOp .eql 109 (.map none) (.map none)).run Tryz.prog w5 = .ok (.bool true) w5 := by kernel_rfl
    have HG0 := Lib.hid hg
    have hbm := bel_alloc w5 (.map #[] 0)
    have hm5 := H5.out.map.more hbm
    have hn3 : n < maxLen := by unfold maxLen; omega
    have hsz : w.heap.size ≤ w5.heap.size := by omega
    have n0' := bel_cell hbm n0
    have n1' := bel_cell hbm n1
    have p2' := bel_cell hbm p2
    have p3' := bel_cell hbm p3
    have p4' := bel_cell hbm p4
    clear hg
    go_wp2_with (at_mapUpdate; refine wpList_put rfl _ _ _ 64 rfl nameKC enN_inj Tryz.underlying64 rfl hm5 hn3 (car, num) _ rfl HKEY.out ?_; intro w6 hm6 hg6; refine Hid.out ?_)
    have n0 := hg6.cell n0' (fun e => cell_ne_map n0' hm5 (Option.some.inj e))
    have n1 := hg6.cell n1' (fun e => cell_ne_map n1' hm5 (Option.some.inj e))
    have p2 := hg6.cell p2' (fun e => cell_ne_map p2' hm5 (Option.some.inj e))
    have p3 := hg6.cell p3' (fun e => cell_ne_map p3' hm5 (Option.some.inj e))
    have p4 := hg6.cell p4' (fun e => cell_ne_map p4' hm5 (Option.some.inj e))
    obtain ⟨B, hB⟩ : ∃ B, B = w5.heap.size := ⟨_, rfl⟩
    obtain ⟨m, hm0⟩ : ∃ m : Nat, m = 0 := ⟨_, rfl⟩
    have hti := H5.out.fresh HG0.out hm6 hg6 (Nat.le_trans hlo hsz)
    rw [← hB] at hti
    obtain ⟨g6, hg6e⟩ : ∃ g6, g6 = (fun c' => if c' = (car, num) then some (Value.map (some B)) else g c') := ⟨_, rfl⟩
    rw [← hg6e] at hti
    have HTI : Hid (TW w6 b lo n g6 T (car, num) B m (T (car, num))) := Lib.hid (by rw [hm0]; exact hti)
    have hm : m ≤ 800 * n := by omega
    have HBT : Hid (But w w6 (MapX w lo)) := Lib.hid ((But.of_below (X := MapX w lo) (HB0.out.trans (hbm.mono HB0.out.size))).grown hg6 (fun _ => HX0.out))
    have HXB : Hid (B < w.heap.size → MapX w lo B) := Lib.hid (fun h => by omega)
    clear hti hg6e hm6 hm0 hB hg6 hbm hm5 n0' n1' p2' p3' p4' hl0 hnl
    refine Lib.hid ?_
    go_wp2_with (go_at_call 61; refine (KD.out _).mono ?_; rintro e w7 ⟨v7, rfl, hI, hbd⟩; obtain ⟨A7, c7, rfl, _⟩ := id hI)
    have HI := Lib.hid hI
    have HTI7 := Lib.hid (HTI.out.more hbd)
    have HBT7 := Lib.hid (HBT.out.trans (But.of_below (X := MapX w lo) hbd) (fun _ _ h => h))
    have N0 := Lib.hid (bel_cell hbd n0)
    have N1 := Lib.hid (bel_cell hbd n1)
    have hBl := HTI7.out.row.lt
    clear p2 p3 p4 n0 n1 hI hbd HTI HBT KD
    go_loopw [20] (fun vi wr => ∃ k : Nat, k ≤ D.length ∧ vi = .int .i64 k ∧ Hid (TW wr b lo n g6 T (car, num) B (m + k) (fun d => if d ∈ D.take k then some u else T (car, num) d) ∧ But w7 wr (fun k => k = B))) (fun vi _ => D.length - (intOf vi).toNat)
    case atStart => exact ⟨0, Nat.zero_le _, rfl, Lib.hid ⟨by simpa using HTI7.out, But.refl _ _⟩⟩
    case round =>
      obtain ⟨k, hk, rfl, HK⟩ := hrel
      obtain ⟨hti, hbt⟩ := HK.out
      by_cases hlt : k < D.length
      · obtain ⟨d, hd⟩ : ∃ d, D[k]? = some d := ⟨_, List.getElem?_eq_getElem hlt⟩
        have i2 : (k : Int) < (D.length : Int) := by omega
        obtain ⟨b2, o2, rfl, hb2, hc2⟩ := IntL.at1 HI.out hlt
        have hd0' := (hc2 k hlt).trans (congrArg (fun x => some (Value.int .i64 x)) (List.getElem?_eq_some_iff.1 hd).2)
        have hd0 := but_cell hbt hd0' (cell_ne_map hd0' HTI7.out.row)
        have n0 := but_cell hbt N0.out (cell_ne_map N0.out HTI7.out.row)
        have n1 := but_cell hbt N1.out (cell_ne_map N1.out HTI7.out.row)
        have hdb := HBD.out d (List.mem_of_getElem? hd)
        have hdw : (Lit.int .i64 d).wf = true := by
          have e1 : IntKind.i64.min = -9223372036854775808 := rfl
          have e2 : IntKind.i64.max = 9223372036854775807 := rfl
          simp only [Lit.wf, e1, e2, Bool.and_eq_true, decide_eq_true_eq]
          omega
        have hl1 : (Instr.lookup 64 (.map (some b)) (.agg #[.string car, .int .i64 num]) false).run Tryz.prog wr = .ok (.map (some B)) wr := by
          have h := hti.map.look nameKC Tryz.underlying64 (zeroLgM wr) HKEY.out false
          rw [hti.here] at h
          exact h
        have HTK := Lib.hid hti
        have HBK := Lib.hid hbt
        have HDW := Lib.hid hdw
        have HU : Hid ((fun d' => if d' = d then some u else if d' ∈ D.take k then some u else T (car, num) d') = fun d' => if d' ∈ D.take (k + 1) then some u else T (car, num) d') := Lib.hid (by
          funext d'
          obtain ⟨hk2, rfl⟩ := List.getElem?_eq_some_iff.1 hd
          rw [show List.take (k + 1) D = List.take k D ++ [D[k]] from (List.take_append_getElem hk2).symm]
          by_cases e : d' = D[k]
          · rw [if_pos e, if_pos (List.mem_append_right _ (List.mem_singleton.2 e))]
          · rw [if_neg e]
            by_cases e2 : d' ∈ D.take k
            · rw [if_pos e2, if_pos (List.mem_append_left _ e2)]
            · rw [if_neg e2, if_neg (fun h => (List.mem_append.1 h).elim e2 (fun h => e (List.mem_singleton.1 h)))])
        have hnm : m + k < maxLen := by unfold maxLen; omega
        clear hti hbt HK hd hc2 hd0' hdb hdw
        have hm9 := HTK.out.row
        go_wp2_with (at_mapUpdate; refine wpList_put rfl _ _ _ 109 rfl dayK enI_inj Tryz.underlying109 rfl hm9 hnm d _ rfl (key_day d HDW.out) ?_; intro w9 hm10 hg9)
        go_roundw
        case rel =>
          have hput := HTK.out.put hm10 hg9
          have hU := HU.out
          exact ⟨k + 1, by omega, by go_num, Lib.hid ⟨hU ▸ hput, HBK.out.trans (But.of_grown (X := fun k => k = B) hg9 rfl) (fun _ _ h => h)⟩⟩
        case measure => simp [intOf]; omega
      · have hk' : k = D.length := by omega
        have i2 : ¬ (k : Int) < (D.length : Int) := by omega
        rw [hk', List.take_length] at hti
        have hfin := hti.stop (T' := enP T (car, num) D u) (by omega) (by funext d; unfold enP; by_cases e : d ∈ D <;> simp [e]) (fun c' hc' => by funext d; unfold enP; simp [hc'])
        have hbu := HBT7.out.trans hbt (fun k hk e => by rw [e] at hk ⊢; exact HXB.out hk)
        clear hti hbt hk'
        go_wp2
        exact bodyPost_end (results_none rfl _ _ _) rfl ⟨⟨_, rfl⟩, ⟨_, hfin⟩, hbu⟩
set_option maxRecDepth 100000 in
set_option maxHeartbeats 8000000 in
theorem enterB_any (b lo n : Nat) (g : ByteArray × Int → Option Value) (T : ByteArray × Int → Int → Option Value) (car : ByteArray) (num pf pt pd : Int) (u : Value) (w : World) (h : TV w b lo n g T) (hn : n ≤ 1000) (hlo : lo ≤ w.heap.size) (hcar : car.size ≤ maxLen) (hnum : (Lit.int .i64 num).wf = true) :
    Calls Tryz.prog 40 #[.map (some b), .agg #[.string car, .int .i64 num], .agg #[.int .i64 pf, .int .i64 pt, .int .i64 pd], u] w fun e w' => (∃ v, e = .returned v) ∧ (∃ g', TV w' b lo (n + 1) g' (enP T (car, num) (Per.daysQ (pf, pt, pd)) u)) ∧ But w w' (MapX w lo) := by
  obtain ⟨kl, hkey⟩ := key_nameC (car, num) hcar hnum
  have hmm := @run_makeMap Tryz.prog
  have hb1 := bel_alloc w (.cells #[.string car, .int .i64 num] cnT)
  have hb2 := bel_alloc (w.alloc (.cells #[.string car, .int .i64 num] cnT)) (.cells #[.int .i64 pf, .int .i64 pt, .int .i64 pd] 58)
  have hb0 := hb1.trans (hb2.mono hb1.size)
  have n0 := bel_cell hb2 ((cells_new w #[.string car, .int .i64 num] cnT 0).trans (show _ = some (Value.string car) from rfl))
  have n1 := bel_cell hb2 ((cells_new w #[.string car, .int .i64 num] cnT 1).trans (show _ = some (Value.int .i64 num) from rfl))
  have p2 := (cells_new (w.alloc (.cells #[.string car, .int .i64 num] cnT)) #[.int .i64 pf, .int .i64 pt, .int .i64 pd] 58 0).trans (show _ = some (Value.int .i64 pf) from rfl)
  have p3 := (cells_new (w.alloc (.cells #[.string car, .int .i64 num] cnT)) #[.int .i64 pf, .int .i64 pt, .int .i64 pd] 58 1).trans (show _ = some (Value.int .i64 pt) from rfl)
  have p4 := (cells_new (w.alloc (.cells #[.string car, .int .i64 num] cnT)) #[.int .i64 pf, .int .i64 pt, .int .i64 pd] 58 2).trans (show _ = some (Value.int .i64 pd) from rfl)
  rw [World.size_alloc] at p2 p3 p4
  have H5 := Lib.hid (h.more hb0)
  have HB0 := Lib.hid hb0
  have HX0 : Hid (MapX w lo b) := Lib.hid (h.map.isX h.hlo)
  have HIN := Lib.hid (fun B (hv : g (car, num) = some (.map (some B))) => (show MapX w lo B by
    obtain ⟨b', m, e, h1, _, _, h4⟩ := h.inn _ _ hv
    cases e
    exact h4.isX h1))
  have hsz5 : w.heap.size + 1 < ((w.alloc (.cells #[.string car, .int .i64 num] cnT)).alloc (.cells #[.int .i64 pf, .int .i64 pt, .int .i64 pd] 58)).heap.size := by simp
  obtain ⟨D, hD⟩ : ∃ D, D = Per.daysQ (pf, pt, pd) := ⟨_, rfl⟩
  have HBD : Hid (∀ d ∈ D, 0 ≤ d ∧ d < 36525) := Lib.hid (by rw [hD]; exact fun d => days_bd)
  have hDl : D.length ≤ 800 := by rw [hD]; exact Per.daysQ_len _
  have KD := Lib.hid (pdays_any pf pt pd)
  rw [← hD] at KD
  rw [← hD]
  have HKEY := Lib.hid hkey
  clear hD h hb1 hb2 hb0 hcar hnum hkey
  go_enter Tryz.func40, Tryz.ntmps40
  go_upto_region 1 with fail
  generalize hw5 : ((w.alloc (.cells #[.string car, .int .i64 num] cnT)).alloc (.cells #[.int .i64 pf, .int .i64 pt, .int .i64 pd] 58)) = w5 at *
  clear hw5
  cases hg : g (car, num) with
  | some v =>
    obtain ⟨B, m, rfl, hm, hti⟩ := H5.out.start hg
    have hl0 : (Instr.lookup 75 (.map (some b)) (.agg #[.string car, .int .i64 num]) false).run Tryz.prog w5 = .ok (.map (some B)) w5 := by
      have h := H5.out.map.look nameKC Tryz.underlying75 (zeroBoM w5) HKEY.out false
      rw [hg] at h
      exact h
    have hnl : (binOp .eql 116 (.map (some B)) (.map none)).run Tryz.prog w5 = .ok (.bool false) w5 := by kernel_rfl
    have HTI := Lib.hid hti
    have HBT : Hid (But w w5 (MapX w lo)) := Lib.hid (But.of_below HB0.out)
    have HXB : Hid (B < w.heap.size → MapX w lo B) := Lib.hid (fun _ => HIN.out B hg)
    clear hti hg
    go_wp2_with (go_at_call 61; refine (KD.out _).mono ?_; rintro e w7 ⟨v7, rfl, hI, hbd⟩; obtain ⟨A7, c7, rfl, _⟩ := id hI)
    have HI := Lib.hid hI
    have HTI7 := Lib.hid (HTI.out.more hbd)
    have HBT7 := Lib.hid (HBT.out.trans (But.of_below (X := MapX w lo) hbd) (fun _ _ h => h))
    have N0 := Lib.hid (bel_cell hbd n0)
    have N1 := Lib.hid (bel_cell hbd n1)
    have hBl := HTI7.out.row.lt
    clear p2 p3 p4 n0 n1 hI hbd HTI HBT KD
    go_loopw [20] (fun vi wr => ∃ k : Nat, k ≤ D.length ∧ vi = .int .i64 k ∧ Hid (TW wr b lo n g T (car, num) B (m + k) (fun d => if d ∈ D.take k then some u else T (car, num) d) ∧ But w7 wr (fun k => k = B))) (fun vi _ => D.length - (intOf vi).toNat)
    case atStart => exact ⟨0, Nat.zero_le _, rfl, Lib.hid ⟨by simpa using HTI7.out, But.refl _ _⟩⟩
    case round =>
      obtain ⟨k, hk, rfl, HK⟩ := hrel
      obtain ⟨hti, hbt⟩ := HK.out
      by_cases hlt : k < D.length
      · obtain ⟨d, hd⟩ : ∃ d, D[k]? = some d := ⟨_, List.getElem?_eq_getElem hlt⟩
        have i2 : (k : Int) < (D.length : Int) := by omega
        obtain ⟨b2, o2, rfl, hb2, hc2⟩ := IntL.at1 HI.out hlt
        have hd0' := (hc2 k hlt).trans (congrArg (fun x => some (Value.int .i64 x)) (List.getElem?_eq_some_iff.1 hd).2)
        have hd0 := but_cell hbt hd0' (cell_ne_map hd0' HTI7.out.row)
        have n0 := but_cell hbt N0.out (cell_ne_map N0.out HTI7.out.row)
        have n1 := but_cell hbt N1.out (cell_ne_map N1.out HTI7.out.row)
        have hdb := HBD.out d (List.mem_of_getElem? hd)
        have hdw : (Lit.int .i64 d).wf = true := by
          have e1 : IntKind.i64.min = -9223372036854775808 := rfl
          have e2 : IntKind.i64.max = 9223372036854775807 := rfl
          simp only [Lit.wf, e1, e2, Bool.and_eq_true, decide_eq_true_eq]
          omega
        have hl1 : (Instr.lookup 75 (.map (some b)) (.agg #[.string car, .int .i64 num]) false).run Tryz.prog wr = .ok (.map (some B)) wr := by
          have h := hti.map.look nameKC Tryz.underlying75 (zeroBoM wr) HKEY.out false
          rw [hti.here] at h
          exact h
        have HTK := Lib.hid hti
        have HBK := Lib.hid hbt
        have HDW := Lib.hid hdw
        have HU : Hid ((fun d' => if d' = d then some u else if d' ∈ D.take k then some u else T (car, num) d') = fun d' => if d' ∈ D.take (k + 1) then some u else T (car, num) d') := Lib.hid (by
          funext d'
          obtain ⟨hk2, rfl⟩ := List.getElem?_eq_some_iff.1 hd
          rw [show List.take (k + 1) D = List.take k D ++ [D[k]] from (List.take_append_getElem hk2).symm]
          by_cases e : d' = D[k]
          · rw [if_pos e, if_pos (List.mem_append_right _ (List.mem_singleton.2 e))]
          · rw [if_neg e]
            by_cases e2 : d' ∈ D.take k
            · rw [if_pos e2, if_pos (List.mem_append_left _ e2)]
            · rw [if_neg e2, if_neg (fun h => (List.mem_append.1 h).elim e2 (fun h => e (List.mem_singleton.1 h)))])
        have hnm : m + k < maxLen := by unfold maxLen; omega
        clear hti hbt HK hd hc2 hd0' hdb hdw
        have hm9 := HTK.out.row
        go_wp2_with (at_mapUpdate; refine wpList_put rfl _ _ _ 116 rfl dayK enI_inj Tryz.underlying116 rfl hm9 hnm d _ rfl (key_day d HDW.out) ?_; intro w9 hm10 hg9)
        go_roundw
        case rel =>
          have hput := HTK.out.put hm10 hg9
          have hU := HU.out
          exact ⟨k + 1, by omega, by go_num, Lib.hid ⟨hU ▸ hput, HBK.out.trans (But.of_grown (X := fun k => k = B) hg9 rfl) (fun _ _ h => h)⟩⟩
        case measure => simp [intOf]; omega
      · have hk' : k = D.length := by omega
        have i2 : ¬ (k : Int) < (D.length : Int) := by omega
        rw [hk', List.take_length] at hti
        have hfin := hti.stop (T' := enP T (car, num) D u) (by omega) (by funext d; unfold enP; by_cases e : d ∈ D <;> simp [e]) (fun c' hc' => by funext d; unfold enP; simp [hc'])
        have hbu := HBT7.out.trans hbt (fun k hk e => by rw [e] at hk ⊢; exact HXB.out hk)
        clear hti hbt hk'
        go_wp2
        exact bodyPost_end (results_none rfl _ _ _) rfl ⟨⟨_, rfl⟩, ⟨_, hfin⟩, hbu⟩
  | none =>
    have hl0 : (Instr.lookup 75 (.map (some b)) (.agg #[.string car, .int .i64 num]) false).run Tryz.prog w5 = .ok (.map none) w5 := by
      have h := H5.out.map.look nameKC Tryz.underlying75 (zeroBoM w5) HKEY.out false
      rw [hg] at h
      exact h
    have hnl : (binOp .eql 116 (.map none) (.map none)).run Tryz.prog w5 = .ok (.bool true) w5 := by kernel_rfl
    have HG0 := Lib.hid hg
    have hbm := bel_alloc w5 (.map #[] 0)
    have hm5 := H5.out.map.more hbm
    have hn3 : n < maxLen := by unfold maxLen; omega
    have hsz : w.heap.size ≤ w5.heap.size := by omega
    have n0' := bel_cell hbm n0
    have n1' := bel_cell hbm n1
    have p2' := bel_cell hbm p2
    have p3' := bel_cell hbm p3
    have p4' := bel_cell hbm p4
    clear hg
    go_wp2_with (at_mapUpdate; refine wpList_put rfl _ _ _ 75 rfl nameKC enN_inj Tryz.underlying75 rfl hm5 hn3 (car, num) _ rfl HKEY.out ?_; intro w6 hm6 hg6; refine Hid.out ?_)
    have n0 := hg6.cell n0' (fun e => cell_ne_map n0' hm5 (Option.some.inj e))
    have n1 := hg6.cell n1' (fun e => cell_ne_map n1' hm5 (Option.some.inj e))
    have p2 := hg6.cell p2' (fun e => cell_ne_map p2' hm5 (Option.some.inj e))
    have p3 := hg6.cell p3' (fun e => cell_ne_map p3' hm5 (Option.some.inj e))
    have p4 := hg6.cell p4' (fun e => cell_ne_map p4' hm5 (Option.some.inj e))
    obtain ⟨B, hB⟩ : ∃ B, B = w5.heap.size := ⟨_, rfl⟩
    obtain ⟨m, hm0⟩ : ∃ m : Nat, m = 0 := ⟨_, rfl⟩
    have hti := H5.out.fresh HG0.out hm6 hg6 (Nat.le_trans hlo hsz)
    rw [← hB] at hti
    obtain ⟨g6, hg6e⟩ : ∃ g6, g6 = (fun c' => if c' = (car, num) then some (Value.map (some B)) else g c') := ⟨_, rfl⟩
    rw [← hg6e] at hti
    have HTI : Hid (TW w6 b lo n g6 T (car, num) B m (T (car, num))) := Lib.hid (by rw [hm0]; exact hti)
    have hm : m ≤ 800 * n := by omega
    have HBT : Hid (But w w6 (MapX w lo)) := Lib.hid ((But.of_below (X := MapX w lo) (HB0.out.trans (hbm.mono HB0.out.size))).grown hg6 (fun _ => HX0.out))
    have HXB : Hid (B < w.heap.size → MapX w lo B) := Lib.hid (fun h => by omega)
    clear hti hg6e hm6 hm0 hB hg6 hbm hm5 n0' n1' p2' p3' p4' hl0 hnl
    refine Lib.hid ?_
    go_wp2_with (go_at_call 61; refine (KD.out _).mono ?_; rintro e w7 ⟨v7, rfl, hI, hbd⟩; obtain ⟨A7, c7, rfl, _⟩ := id hI)
    have HI := Lib.hid hI
    have HTI7 := Lib.hid (HTI.out.more hbd)
    have HBT7 := Lib.hid (HBT.out.trans (But.of_below (X := MapX w lo) hbd) (fun _ _ h => h))
    have N0 := Lib.hid (bel_cell hbd n0)
    have N1 := Lib.hid (bel_cell hbd n1)
    have hBl := HTI7.out.row.lt
    clear p2 p3 p4 n0 n1 hI hbd HTI HBT KD
    go_loopw [20] (fun vi wr => ∃ k : Nat, k ≤ D.length ∧ vi = .int .i64 k ∧ Hid (TW wr b lo n g6 T (car, num) B (m + k) (fun d => if d ∈ D.take k then some u else T (car, num) d) ∧ But w7 wr (fun k => k = B))) (fun vi _ => D.length - (intOf vi).toNat)
    case atStart => exact ⟨0, Nat.zero_le _, rfl, Lib.hid ⟨by simpa using HTI7.out, But.refl _ _⟩⟩
    case round =>
      obtain ⟨k, hk, rfl, HK⟩ := hrel
      obtain ⟨hti, hbt⟩ := HK.out
      by_cases hlt : k < D.length
      · obtain ⟨d, hd⟩ : ∃ d, D[k]? = some d := ⟨_, List.getElem?_eq_getElem hlt⟩
        have i2 : (k : Int) < (D.length : Int) := by omega
        obtain ⟨b2, o2, rfl, hb2, hc2⟩ := IntL.at1 HI.out hlt
        have hd0' := (hc2 k hlt).trans (congrArg (fun x => some (Value.int .i64 x)) (List.getElem?_eq_some_iff.1 hd).2)
        have hd0 := but_cell hbt hd0' (cell_ne_map hd0' HTI7.out.row)
        have n0 := but_cell hbt N0.out (cell_ne_map N0.out HTI7.out.row)
        have n1 := but_cell hbt N1.out (cell_ne_map N1.out HTI7.out.row)
        have hdb := HBD.out d (List.mem_of_getElem? hd)
        have hdw : (Lit.int .i64 d).wf = true := by
          have e1 : IntKind.i64.min = -9223372036854775808 := rfl
          have e2 : IntKind.i64.max = 9223372036854775807 := rfl
          simp only [Lit.wf, e1, e2, Bool.and_eq_true, decide_eq_true_eq]
          omega
        have hl1 : (Instr.lookup 75 (.map (some b)) (.agg #[.string car, .int .i64 num]) false).run Tryz.prog wr = .ok (.map (some B)) wr := by
          have h := hti.map.look nameKC Tryz.underlying75 (zeroBoM wr) HKEY.out false
          rw [hti.here] at h
          exact h
        have HTK := Lib.hid hti
        have HBK := Lib.hid hbt
        have HDW := Lib.hid hdw
        have HU : Hid ((fun d' => if d' = d then some u else if d' ∈ D.take k then some u else T (car, num) d') = fun d' => if d' ∈ D.take (k + 1) then some u else T (car, num) d') := Lib.hid (by
          funext d'
          obtain ⟨hk2, rfl⟩ := List.getElem?_eq_some_iff.1 hd
          rw [show List.take (k + 1) D = List.take k D ++ [D[k]] from (List.take_append_getElem hk2).symm]
          by_cases e : d' = D[k]
          · rw [if_pos e, if_pos (List.mem_append_right _ (List.mem_singleton.2 e))]
          · rw [if_neg e]
            by_cases e2 : d' ∈ D.take k
            · rw [if_pos e2, if_pos (List.mem_append_left _ e2)]
            · rw [if_neg e2, if_neg (fun h => (List.mem_append.1 h).elim e2 (fun h => e (List.mem_singleton.1 h)))])
        have hnm : m + k < maxLen := by unfold maxLen; omega
        clear hti hbt HK hd hc2 hd0' hdb hdw
        have hm9 := HTK.out.row
        go_wp2_with (at_mapUpdate; refine wpList_put rfl _ _ _ 116 rfl dayK enI_inj Tryz.underlying116 rfl hm9 hnm d _ rfl (key_day d HDW.out) ?_; intro w9 hm10 hg9)
        go_roundw
        case rel =>
          have hput := HTK.out.put hm10 hg9
          have hU := HU.out
          exact ⟨k + 1, by omega, by go_num, Lib.hid ⟨hU ▸ hput, HBK.out.trans (But.of_grown (X := fun k => k = B) hg9 rfl) (fun _ _ h => h)⟩⟩
        case measure => simp [intOf]; omega
      · have hk' : k = D.length := by omega
        have i2 : ¬ (k : Int) < (D.length : Int) := by omega
        rw [hk', List.take_length] at hti
        have hfin := hti.stop (T' := enP T (car, num) D u) (by omega) (by funext d; unfold enP; by_cases e : d ∈ D <;> simp [e]) (fun c' hc' => by funext d; unfold enP; simp [hc'])
        have hbu := HBT7.out.trans hbt (fun k hk e => by rw [e] at hk ⊢; exact HXB.out hk)
        clear hti hbt hk'
        go_wp2
        exact bodyPost_end (results_none rfl _ _ _) rfl ⟨⟨_, rfl⟩, ⟨_, hfin⟩, hbu⟩
end Go.Proofs.YtdpcjafkahhecaaGreatDoor

/- What is operated and sold under each name on each day, as maps that lie still; checkOperated, checkSold, isNumber. -/
namespace Go.Proofs.YtdpcjafkahhecaaGreatDoor
open Go.RowKit Go.Shelf Go.Maps
set_option linter.unusedSimpArgs false
set_option linter.unusedVariables false

abbrev sliceV (f : FV) : Value := .slice f.A f.lg.length f.c
/-- the first flight of a name on a day -/
def opD (fs : List FV) (c : ByteArray × Int) (d : Int) : Option FV := fs.find? (fun f => decide (c = (f.car, f.num)) && decide (d ∈ Per.daysQ (f.pf, f.pt, f.pd)))
def opT (fs : List FV) (c : ByteArray × Int) (d : Int) : Option Value := (opD fs c d).map fun f => sliceV f
theorem opD_mem {fs : List FV} {c : ByteArray × Int} {d : Int} {f : FV} (h : opD fs c d = some f) : f ∈ fs := List.mem_of_find?_eq_some h
theorem opT_cons (f : FV) (l : List FV) : opT (f :: l) = enP (opT l) (f.car, f.num) (Per.daysQ (f.pf, f.pt, f.pd)) (sliceV f) := by
  funext c d
  unfold opT opD enP
  rw [List.find?_cons]
  by_cases h : c = (f.car, f.num) ∧ d ∈ Per.daysQ (f.pf, f.pt, f.pd)
  · rw [if_pos h]
    simp [h.1, h.2]
  · rw [if_neg h]
    have e : (decide (c = (f.car, f.num)) && decide (d ∈ Per.daysQ (f.pf, f.pt, f.pd))) = false := by
      rw [Bool.and_eq_false_iff]
      by_cases h1 : c = (f.car, f.num)
      · exact .inr (by simpa using fun h2 => h ⟨h1, h2⟩)
      · exact .inl (by simpa using h1)
    rw [e]
theorem ba_list {a b : ByteArray} : (a.toList == b.toList) = decide (a = b) := by
  by_cases h : a = b
  · rw [h]; simp
  · have : ¬ a.toList = b.toList := fun e => h (by
      rw [ByteArray.toList_eq, ByteArray.toList_eq] at e
      exact ByteArray.ext (Array.toList_inj.1 e))
    simp [h, this]
theorem opD_on (fs : List FV) (car : ByteArray) (num d : Int) : opD fs (car, num) d = onF fs car num d := by
  unfold opD onF
  congr 1
  funext f
  unfold onB
  rw [ba_list]
  have e := Per.daysQ_mem (f.pf, f.pt, f.pd) d
  cases hq : Per.hasQ (f.pf, f.pt, f.pd) d
  · have : ¬ d ∈ Per.daysQ (f.pf, f.pt, f.pd) := fun h => by rw [e, hq] at h; cases h
    simp [this]
  · have : d ∈ Per.daysQ (f.pf, f.pt, f.pd) := by rw [e]; exact hq
    simp only [this, decide_true, Bool.and_true]
    rw [Bool.eq_iff_iff]
    simp only [decide_eq_true_eq, Bool.and_eq_true, Prod.mk.injEq, beq_iff_eq]
    constructor
    · rintro ⟨rfl, rfl⟩; exact ⟨rfl, rfl⟩
    · rintro ⟨rfl, rfl⟩; exact ⟨rfl, rfl⟩

/-- block b, below hi, is a map of maps below hi, that says T -/
def TF (w : World) (hi b : Nat) (T : ByteArray × Int → Int → Option Value) : Prop := ∃ n g, MapNc w b n g ∧ b < hi ∧ (∀ c v, g c = some v → ∃ b' m, v = .map (some b') ∧ b' < hi ∧ MapDv w b' m (T c)) ∧ ∀ c, g c = none → ∀ d, T c d = none
theorem TV.fix {w : World} {b lo n : Nat} {g : ByteArray × Int → Option Value} {T : ByteArray × Int → Int → Option Value} (h : TV w b lo n g T) : TF w w.heap.size b T :=
  ⟨n, g, h.map, h.map.lt, fun c v hc => by
    obtain ⟨b', m, e, h1, h2, h3, h4⟩ := h.inn c v hc
    exact ⟨b', m, e, h4.lt, h4⟩, h.out⟩
theorem TF.more {w w' : World} {hi b : Nat} {T : ByteArray × Int → Int → Option Value} (h : TF w hi b T) (hb : Below hi w w') : TF w' hi b T := by
  obtain ⟨n, g, h1, h2, h3, h4⟩ := h
  exact ⟨n, g, h1.same (hb.block b h2), h2, fun c v hc => by
    obtain ⟨b', m, e, g1, g2⟩ := h3 c v hc
    exact ⟨b', m, e, g1, g2.same (hb.block b' g1)⟩, h4⟩
theorem zeroLg (w : World) : (zeroValue 68).run Tryz.prog w = .ok (.slice none 0 0) w := by kernel_rfl
theorem zeroBo (w : World) : (zeroValue 4).run Tryz.prog w = .ok (.bool false) w := by kernel_rfl
theorem TF.lookL {w : World} {hi b : Nat} {T : ByteArray × Int → Int → Option Value} (h : TF w hi b T) (car : ByteArray) (num : Int) (hcar : car.size ≤ maxLen) (hnum : (Lit.int .i64 num).wf = true) :
    ∃ v, (∀ W, Below hi w W → (Instr.lookup 64 (.map (some b)) (.agg #[.string car, .int .i64 num]) false).run Tryz.prog W = .ok v W) ∧
      ∀ W, Below hi w W → ∀ d, (Lit.int .i64 d).wf = true → (Instr.lookup 109 v (.int .i64 d) true).run Tryz.prog W = .ok (.tuple #[(T (car, num) d).getD (.slice none 0 0), .bool (T (car, num) d).isSome]) W := by
  obtain ⟨kl, hkey⟩ := key_nameC (car, num) hcar hnum
  obtain ⟨n, g, h1, h2, h3, h4⟩ := h
  refine ⟨(g (car, num)).getD (.map none), fun W hb => ?_, fun W hb d hd => ?_⟩
  · exact (h1.same (hb.block b h2)).look nameKC Tryz.underlying64 (zeroLgM W) hkey false
  · cases hg : g (car, num) with
    | none =>
      rw [h4 _ hg d]
      exact Maps.look_nil true dayK Tryz.underlying109 (zeroLg W) (key_day d hd)
    | some v =>
      obtain ⟨b', m, rfl, g1, g2⟩ := h3 _ v hg
      exact (g2.same (hb.block b' g1)).look dayK Tryz.underlying109 (zeroLg W) (key_day d hd) true
theorem TV.lookB {w : World} {b lo n : Nat} {g : ByteArray × Int → Option Value} {T : ByteArray × Int → Int → Option Value} (h : TV w b lo n g T) (car : ByteArray) (num : Int) (hcar : car.size ≤ maxLen) (hnum : (Lit.int .i64 num).wf = true) :
    ∃ v, (∀ W, Below w.heap.size w W → (Instr.lookup 75 (.map (some b)) (.agg #[.string car, .int .i64 num]) false).run Tryz.prog W = .ok v W) ∧
      ∀ W, Below w.heap.size w W → ∀ d, (Lit.int .i64 d).wf = true → (Instr.lookup 116 v (.int .i64 d) false).run Tryz.prog W = .ok ((T (car, num) d).getD (.bool false)) W := by
  obtain ⟨kl, hkey⟩ := key_nameC (car, num) hcar hnum
  refine ⟨(g (car, num)).getD (.map none), fun W hb => ?_, fun W hb d hd => ?_⟩
  · exact (h.more hb).map.look nameKC Tryz.underlying75 (zeroBoM W) hkey false
  · cases hg : g (car, num) with
    | none =>
      rw [h.out _ hg d]
      exact Maps.look_nil false dayK Tryz.underlying116 (zeroBo W) (key_day d hd)
    | some v =>
      obtain ⟨b', m, rfl, g1, _, _, g2⟩ := (h.more hb).inn _ v hg
      exact g2.look dayK Tryz.underlying116 (zeroBo W) (key_day d hd) false
theorem day_wf {q : Int × Int × Int} {d : Int} (h : d ∈ Per.daysQ q) : (Lit.int .i64 d).wf = true := by
  have := days_bd h
  have e1 : IntKind.i64.min = -9223372036854775808 := rfl
  have e2 : IntKind.i64.max = 9223372036854775807 := rfl
  simp only [Lit.wf, e1, e2, Bool.and_eq_true, decide_eq_true_eq]
  omega

/-- no flight on a day of a share; a flight that does not lead -/
def nonD (fs : List FV) (s : Sh) (d : Int) : Bool := (opD fs (s.op, s.am) d).isNone
def offD (fs : List FV) (s : Sh) (d : Int) : Bool := match opD fs (s.op, s.am) d with
  | some f => !lead s.f s.t false f.lg
  | none => false
theorem any_takeB {D : List Int} {U : Int → Bool} {k : Nat} {d : Int} (h : D[k]? = some d) : (D.take (k + 1)).any U = ((D.take k).any U || U d) := any_takeT h

set_option maxRecDepth 100000 in
set_option maxHeartbeats 4000000 in
theorem coper_any (fs : List FV) (b hi : Nat) (s : Sh) (w : World) (hT : TF w hi b (opT fs)) (hhi : hi ≤ w.heap.size) (hv : ∀ f ∈ fs, LegL w (sliceV f) f.lg) (hl : ∀ f ∈ fs, f.lg.length ≤ 1000 ∧ f.lg.length ≤ f.c) (hop : s.op.size ≤ maxLen) (ham : (Lit.int .i64 s.am).wf = true) :
    Calls Tryz.prog 32 #[.map (some b), encSh s] w fun e w' => e = .returned (.tuple #[.int .i64 (wh ((Per.daysQ (s.pf, s.pt, s.pd)).any (nonD fs s)) 7), .int .i64 (wh ((Per.daysQ (s.pf, s.pt, s.pd)).any (offD fs s)) 15)]) ∧ Below w.heap.size w w' := by
  have hb0 := bel_alloc w (.cells #[.string s.car, .int .i64 s.num, .int .i64 s.pf, .int .i64 s.pt, .int .i64 s.pd, .string s.op, .int .i64 s.am, .string s.f, .string s.t] shT)
  have q2 := (cells_new w #[.string s.car, .int .i64 s.num, .int .i64 s.pf, .int .i64 s.pt, .int .i64 s.pd, .string s.op, .int .i64 s.am, .string s.f, .string s.t] shT 2).trans (show _ = some (Value.int .i64 s.pf) from rfl)
  have q3 := (cells_new w #[.string s.car, .int .i64 s.num, .int .i64 s.pf, .int .i64 s.pt, .int .i64 s.pd, .string s.op, .int .i64 s.am, .string s.f, .string s.t] shT 3).trans (show _ = some (Value.int .i64 s.pt) from rfl)
  have q4 := (cells_new w #[.string s.car, .int .i64 s.num, .int .i64 s.pf, .int .i64 s.pt, .int .i64 s.pd, .string s.op, .int .i64 s.am, .string s.f, .string s.t] shT 4).trans (show _ = some (Value.int .i64 s.pd) from rfl)
  have q5 := (cells_new w #[.string s.car, .int .i64 s.num, .int .i64 s.pf, .int .i64 s.pt, .int .i64 s.pd, .string s.op, .int .i64 s.am, .string s.f, .string s.t] shT 5).trans (show _ = some (Value.string s.op) from rfl)
  have q6 := (cells_new w #[.string s.car, .int .i64 s.num, .int .i64 s.pf, .int .i64 s.pt, .int .i64 s.pd, .string s.op, .int .i64 s.am, .string s.f, .string s.t] shT 6).trans (show _ = some (Value.int .i64 s.am) from rfl)
  have q7 := (cells_new w #[.string s.car, .int .i64 s.num, .int .i64 s.pf, .int .i64 s.pt, .int .i64 s.pd, .string s.op, .int .i64 s.am, .string s.f, .string s.t] shT 7).trans (show _ = some (Value.string s.f) from rfl)
  have q8 := (cells_new w #[.string s.car, .int .i64 s.num, .int .i64 s.pf, .int .i64 s.pt, .int .i64 s.pd, .string s.op, .int .i64 s.am, .string s.f, .string s.t] shT 8).trans (show _ = some (Value.string s.t) from rfl)
  obtain ⟨mv, hm1, hm2⟩ := hT.lookL s.op s.am hop ham
  have HB0 := Lib.hid hb0
  have HM2 := Lib.hid hm2
  have HV := Lib.hid hv
  have HL := Lib.hid hl
  have HHI := Lib.hid hhi
  have hm1 := hm1 _ (hb0.mono hhi)
  obtain ⟨D, hD⟩ : ∃ D, D = Per.daysQ (s.pf, s.pt, s.pd) := ⟨_, rfl⟩
  have HDW : Hid (∀ d ∈ D, (Lit.int .i64 d).wf = true) := Lib.hid (fun d h => day_wf (by rw [hD] at h; exact h))
  have hDl : D.length ≤ 800 := by rw [hD]; exact Per.daysQ_len _
  have KD := Lib.hid (pdays_any s.pf s.pt s.pd)
  rw [← hD] at KD ⊢
  clear hD hT hm2 hv hl hhi
  go_enter Tryz.func32, Tryz.ntmps32
  go_upto_region 1 with fail
  generalize hw5 : (w.alloc (.cells #[.string s.car, .int .i64 s.num, .int .i64 s.pf, .int .i64 s.pt, .int .i64 s.pd, .string s.op, .int .i64 s.am, .string s.f, .string s.t] shT)) = w5 at *
  clear hw5 hb0
  go_wp2_with (go_at_call 61; refine (KD.out _).mono ?_; rintro e w7 ⟨v7, rfl, hI, hbd⟩; obtain ⟨A7, c7, rfl, _⟩ := id hI)
  have HI := Lib.hid hI
  have HBD := Lib.hid (Below.trans HB0.out (hbd.mono HB0.out.size))
  have k7 := Lib.hid (bel_cell hbd q7)
  have k8 := Lib.hid (bel_cell hbd q8)
  clear q2 q3 q4 q5 q6 q7 q8 hm1 hI hbd KD
  go_loopw [4, 5, 22] (fun na la vi wr => ∃ (k : Nat) (x y : Int), k ≤ D.length ∧ na = .int .i64 x ∧ la = .int .i64 y ∧ vi = .int .i64 k ∧ Hid (x = wh ((D.take k).any (nonD fs s)) 7 ∧ y = wh ((D.take k).any (offD fs s)) 15 ∧ Below w7.heap.size w7 wr)) (fun _ _ vi _ => D.length - (intOf vi).toNat)
  case atStart => exact ⟨0, 0, 0, Nat.zero_le _, rfl, rfl, rfl, Lib.hid ⟨rfl, rfl, Below.refl _ _⟩⟩
  case round =>
    obtain ⟨k, x, y, hk, rfl, rfl, rfl, HK⟩ := hrel
    by_cases hlt : k < D.length
    · obtain ⟨d, hd⟩ : ∃ d, D[k]? = some d := ⟨_, List.getElem?_eq_getElem hlt⟩
      have i2 : (k : Int) < (D.length : Int) := by omega
      obtain ⟨b2, o2, rfl, hb2, hc2⟩ := IntL.at1 HI.out hlt
      have hd0 := bel_cell HK.out.2.2 ((hc2 k hlt).trans (congrArg (fun x => some (Value.int .i64 x)) (List.getElem?_eq_some_iff.1 hd).2))
      have HT1 := Lib.hid (any_takeB (U := nonD fs s) hd)
      have HT2 := Lib.hid (any_takeB (U := offD fs s) hd)
      have hbw : Below w.heap.size w wr := Below.trans HBD.out (HK.out.2.2.mono HBD.out.size)
      have hml := HM2.out wr (hbw.mono HHI.out) d (HDW.out d (List.mem_of_getElem? hd))
      have HBW := Lib.hid hbw
      unfold opT at hml
      cases hf : opD fs (s.op, s.am) d with
      | none =>
        rw [hf] at hml
        simp only [Option.map_none, Option.getD_none, Option.isSome_none] at hml
        have HN1 : Hid (nonD fs s d = true) := Lib.hid (by unfold nonD; rw [hf]; rfl)
        have HN2 : Hid (offD fs s d = false) := Lib.hid (by unfold offD; rw [hf])
        clear hf hd hc2 hbw
        go_wp2
        go_roundw
        case rel => exact ⟨k + 1, 7, y, by omega, rfl, rfl, by go_num, Lib.hid ⟨by rw [HT1.out, HN1.out, Bool.or_true]; rfl, by rw [HT2.out, HN2.out, Bool.or_false]; exact HK.out.2.1, HK.out.2.2⟩⟩
        case measure => simp [intOf]; omega
      | some f =>
        rw [hf] at hml
        simp only [Option.map_some, Option.getD_some, Option.isSome_some] at hml
        have hfm := opD_mem hf
        have HN1 : Hid (nonD fs s d = false) := Lib.hid (by unfold nonD; rw [hf]; rfl)
        have HN2 : Hid (offD fs s d = !lead s.f s.t false f.lg) := Lib.hid (by unfold offD; rw [hf])
        have KL := Lib.hid (leads_any f.A f.c f.lg s.f s.t wr (HL.out f hfm).1 (HL.out f hfm).2 ((HV.out f hfm).more hbw))
        have j7 := bel_cell HK.out.2.2 k7.out
        have j8 := bel_cell HK.out.2.2 k8.out
        clear hf hd hc2 hbw hfm
        cases hb : lead s.f s.t false f.lg with
        | false =>
          rw [hb] at KL HN2
          clear hb
          go_wp2_with (go_at_call 62; refine KL.out.mono ?_; rintro e w8 ⟨rfl, hb8⟩)
          go_roundw
          case rel => exact ⟨k + 1, x, 15, by omega, rfl, rfl, by go_num, Lib.hid ⟨by rw [HT1.out, HN1.out, Bool.or_false]; exact HK.out.1, by rw [HT2.out, HN2.out]; simp [wh], HK.out.2.2.trans (hb8.mono HK.out.2.2.size)⟩⟩
          case measure => simp [intOf]; omega
        | true =>
          rw [hb] at KL HN2
          clear hb
          go_wp2_with (go_at_call 62; refine KL.out.mono ?_; rintro e w8 ⟨rfl, hb8⟩)
          go_roundw
          case rel => exact ⟨k + 1, x, y, by omega, rfl, rfl, by go_num, Lib.hid ⟨by rw [HT1.out, HN1.out, Bool.or_false]; exact HK.out.1, by rw [HT2.out, HN2.out, Bool.not_true, Bool.or_false]; exact HK.out.2.1, HK.out.2.2.trans (hb8.mono HK.out.2.2.size)⟩⟩
          case measure => simp [intOf]; omega
    · have hk' : k = D.length := by omega
      have HR : Hid (x = wh (D.any (nonD fs s)) 7 ∧ y = wh (D.any (offD fs s)) 15 ∧ Below w.heap.size w wr) := Lib.hid (by
        obtain ⟨h1, h2, h3⟩ := HK.out
        rw [hk', List.take_length] at h1 h2
        exact ⟨h1, h2, Below.trans HBD.out (h3.mono HBD.out.size)⟩)
      have i2 : ¬ (k : Int) < (D.length : Int) := by omega
      clear hk' HK
      go_wp2
      go_ret2
      exact ⟨by rw [← HR.out.1, ← HR.out.2.1]; rfl, HR.out.2.2⟩

/-- what is operated, or was sold, on a day -/
def ownB (fs : List FV) (S : ByteArray × Int → Int → Bool) (s : Sh) (d : Int) : Bool := (opD fs (s.car, s.num) d).isSome || S (s.car, s.num) d
abbrev boT (S : ByteArray × Int → Int → Bool) (c : ByteArray × Int) (d : Int) : Option Value := if S c d = true then some (.bool true) else none
set_option maxRecDepth 100000 in
set_option maxHeartbeats 4000000 in
theorem csole_any (fs : List FV) (b hi : Nat) (bs lo n : Nat) (g : ByteArray × Int → Option Value) (S : ByteArray × Int → Int → Bool) (s : Sh) (w : World) (hT : TF w hi b (opT fs)) (hhi : hi ≤ w.heap.size) (hS : TV w bs lo n g (boT S)) (hop : s.car.size ≤ maxLen) (ham : (Lit.int .i64 s.num).wf = true) :
    Calls Tryz.prog 39 #[.map (some b), .map (some bs), encSh s] w fun e w' => e = .returned (.int .i64 (wh ((Per.daysQ (s.pf, s.pt, s.pd)).any (ownB fs S s)) 6)) ∧ Below w.heap.size w w' := by
  have hb1 := bel_alloc w (.cells #[.string s.car, .int .i64 s.num, .int .i64 s.pf, .int .i64 s.pt, .int .i64 s.pd, .string s.op, .int .i64 s.am, .string s.f, .string s.t] shT)
  have hb2 := bel_alloc (w.alloc (.cells #[.string s.car, .int .i64 s.num, .int .i64 s.pf, .int .i64 s.pt, .int .i64 s.pd, .string s.op, .int .i64 s.am, .string s.f, .string s.t] shT)) (.cells #[.string s.car, .int .i64 s.num] cnT)
  have hb0 := hb1.trans (hb2.mono hb1.size)
  have q0 := (cells_new w #[.string s.car, .int .i64 s.num, .int .i64 s.pf, .int .i64 s.pt, .int .i64 s.pd, .string s.op, .int .i64 s.am, .string s.f, .string s.t] shT 0).trans (show _ = some (Value.string s.car) from rfl)
  have q1 := (cells_new w #[.string s.car, .int .i64 s.num, .int .i64 s.pf, .int .i64 s.pt, .int .i64 s.pd, .string s.op, .int .i64 s.am, .string s.f, .string s.t] shT 1).trans (show _ = some (Value.int .i64 s.num) from rfl)
  have q2 := bel_cell hb2 ((cells_new w #[.string s.car, .int .i64 s.num, .int .i64 s.pf, .int .i64 s.pt, .int .i64 s.pd, .string s.op, .int .i64 s.am, .string s.f, .string s.t] shT 2).trans (show _ = some (Value.int .i64 s.pf) from rfl))
  have q3 := bel_cell hb2 ((cells_new w #[.string s.car, .int .i64 s.num, .int .i64 s.pf, .int .i64 s.pt, .int .i64 s.pd, .string s.op, .int .i64 s.am, .string s.f, .string s.t] shT 3).trans (show _ = some (Value.int .i64 s.pt) from rfl))
  have q4 := bel_cell hb2 ((cells_new w #[.string s.car, .int .i64 s.num, .int .i64 s.pf, .int .i64 s.pt, .int .i64 s.pd, .string s.op, .int .i64 s.am, .string s.f, .string s.t] shT 4).trans (show _ = some (Value.int .i64 s.pd) from rfl))
  have n0 := (cells_new (w.alloc (.cells #[.string s.car, .int .i64 s.num, .int .i64 s.pf, .int .i64 s.pt, .int .i64 s.pd, .string s.op, .int .i64 s.am, .string s.f, .string s.t] shT)) #[.string s.car, .int .i64 s.num] cnT 0).trans (show _ = some (Value.string s.car) from rfl)
  have n1 := (cells_new (w.alloc (.cells #[.string s.car, .int .i64 s.num, .int .i64 s.pf, .int .i64 s.pt, .int .i64 s.pd, .string s.op, .int .i64 s.am, .string s.f, .string s.t] shT)) #[.string s.car, .int .i64 s.num] cnT 1).trans (show _ = some (Value.int .i64 s.num) from rfl)
  rw [World.size_alloc] at n0 n1
  obtain ⟨mv, hm1, hm2⟩ := hT.lookL s.car s.num hop ham
  obtain ⟨sv, hs1, hs2⟩ := hS.lookB s.car s.num hop ham
  have HB0 := Lib.hid hb0
  have HM1 := Lib.hid hm1
  have HM2 := Lib.hid hm2
  have HS1 := Lib.hid hs1
  have HS2 := Lib.hid hs2
  have HHI := Lib.hid hhi
  obtain ⟨D, hD⟩ : ∃ D, D = Per.daysQ (s.pf, s.pt, s.pd) := ⟨_, rfl⟩
  have HDW : Hid (∀ d ∈ D, (Lit.int .i64 d).wf = true) := Lib.hid (fun d h => day_wf (by rw [hD] at h; exact h))
  have hDl : D.length ≤ 800 := by rw [hD]; exact Per.daysQ_len _
  have KD := Lib.hid (pdays_any s.pf s.pt s.pd)
  rw [← hD] at KD ⊢
  clear hD hT hS hm1 hm2 hs1 hs2 hhi hb1 hb2
  go_enter Tryz.func39, Tryz.ntmps39
  go_upto_region 2 with fail
  generalize hw5 : ((w.alloc (.cells #[.string s.car, .int .i64 s.num, .int .i64 s.pf, .int .i64 s.pt, .int .i64 s.pd, .string s.op, .int .i64 s.am, .string s.f, .string s.t] shT)).alloc (.cells #[.string s.car, .int .i64 s.num] cnT)) = w5 at *
  clear hw5 hb0 q0 q1
  go_wp2_with (go_at_call 61; refine (KD.out _).mono ?_; rintro e w7 ⟨v7, rfl, hI, hbd⟩; obtain ⟨A7, c7, rfl, _⟩ := id hI)
  have HI := Lib.hid hI
  have HBD := Lib.hid (Below.trans HB0.out (hbd.mono HB0.out.size))
  have N0 := Lib.hid (bel_cell hbd n0)
  have N1 := Lib.hid (bel_cell hbd n1)
  clear q2 q3 q4 n0 n1 hI hbd KD
  go_loopw [21] (fun vi wr => ∃ (k : Nat), k ≤ D.length ∧ vi = .int .i64 k ∧ Hid ((D.take k).any (ownB fs S s) = false ∧ wr = w7)) (fun vi _ => D.length - (intOf vi).toNat)
  case atStart => exact ⟨0, Nat.zero_le _, rfl, Lib.hid ⟨rfl, rfl⟩⟩
  case round =>
    obtain ⟨k, hk, rfl, HK⟩ := hrel
    obtain ⟨HK1, rfl⟩ : Hid ((D.take k).any (ownB fs S s) = false) ∧ wr = w7 := ⟨Lib.hid HK.out.1, HK.out.2⟩
    replace HK := HK1
    clear HK1
    by_cases hlt : k < D.length
    · obtain ⟨d, hd⟩ : ∃ d, D[k]? = some d := ⟨_, List.getElem?_eq_getElem hlt⟩
      have i2 : (k : Int) < (D.length : Int) := by omega
      obtain ⟨b2, o2, rfl, hb2, hc2⟩ := IntL.at1 HI.out hlt
      have hd0 := (hc2 k hlt).trans (congrArg (fun x => some (Value.int .i64 x)) (List.getElem?_eq_some_iff.1 hd).2)
      have HT1 := Lib.hid (any_takeB (U := ownB fs S s) hd)
      have hbw : Below w.heap.size w wr := HBD.out
      have hdm := List.mem_of_getElem? hd
      have hl1 := HM1.out wr (hbw.mono HHI.out)
      have hml := HM2.out wr (hbw.mono HHI.out) d (HDW.out d hdm)
      have hl2 := HS1.out wr hbw
      have hms := HS2.out wr hbw d (HDW.out d hdm)
      have n0 := N0.out
      have n1 := N1.out
      unfold opT at hml
      cases hf : opD fs (s.car, s.num) d with
      | some f =>
        rw [hf] at hml
        simp only [Option.map_some, Option.getD_some, Option.isSome_some] at hml
        have HR : Hid (D.any (ownB fs S s) = true) := Lib.hid (List.any_eq_true.2 ⟨d, hdm, by unfold ownB; rw [hf]; rfl⟩)
        clear hf hd hc2 hdm hl2 hms
        go_wp2
        go_ret
        exact ⟨by rw [HR.out]; rfl, HBD.out⟩
      | none =>
        rw [hf] at hml
        simp only [Option.map_none, Option.getD_none, Option.isSome_none] at hml
        unfold boT at hms
        cases hq : S (s.car, s.num) d with
        | true =>
          rw [hq] at hms
          simp only [if_true, Option.getD_some] at hms
          have HR : Hid (D.any (ownB fs S s) = true) := Lib.hid (List.any_eq_true.2 ⟨d, hdm, by unfold ownB; rw [hf, hq]; rfl⟩)
          clear hf hd hc2 hdm hq
          go_wp2
          go_ret
          exact ⟨by rw [HR.out]; rfl, HBD.out⟩
        | false =>
          rw [hq] at hms
          simp only [Bool.false_eq_true, if_false, Option.getD_none] at hms
          have HR : Hid ((D.take (k + 1)).any (ownB fs S s) = false) := Lib.hid (by rw [HT1.out, HK.out]; unfold ownB; rw [hf, hq]; rfl)
          clear hf hd hc2 hdm hq
          go_wp2
          go_roundw
          case rel => exact ⟨k + 1, by omega, by go_num, Lib.hid ⟨HR.out, trivial⟩⟩
          case measure => simp [intOf]; omega
    · have hk' : k = D.length := by omega
      have HR : Hid (D.any (ownB fs S s) = false) := Lib.hid (by
        have := HK.out
        rw [hk', List.take_length] at this
        exact this)
      have i2 : ¬ (k : Int) < (D.length : Int) := by omega
      clear hk' HK
      go_wp2
      go_ret
      exact ⟨by rw [HR.out]; rfl, HBD.out⟩
def num9B (n : Int) : Bool := decide (1 ≤ n) && decide (n ≤ 9999)
theorem isNum9_any (n : Int) (w : World) : Calls Tryz.prog 37 #[.int .i64 n] w fun e w' => e = .returned (.bool (num9B n)) ∧ w = w' := by
  unfold num9B
  by_cases h1 : 1 ≤ n
  · by_cases h2 : n ≤ 9999
    · go_enter Tryz.func37, Tryz.ntmps37
      go_wp2
      go_ret
      simp [h1, h2]
    · go_enter Tryz.func37, Tryz.ntmps37
      go_wp2
      go_ret
      simp [h1, h2]
  · go_enter Tryz.func37, Tryz.ntmps37
    go_wp2
    go_ret
    simp [h1]
    try omega
end Go.Proofs.YtdpcjafkahhecaaGreatDoor

/- A range over a function whose body writes maps (also those that were made since the loop began), and whose loop variable may be boxed: the law. -/
namespace Go.Proofs.YtdpcjafkahhecaaGreatDoor
open Go.RowKit
set_option linter.unusedSimpArgs false
set_option linter.unusedVariables false

/-- a block of book-keeping: neither cells nor a map -/
def bookB : Obj → Bool
  | .cells .. => false
  | .map .. => false
  | _ => true
/-- blocks of book-keeping from B on lie as they lay -/
def KeepsBk (B : Nat) (w w' : World) : Prop := w.heap.size ≤ w'.heap.size ∧ ∀ k o, B ≤ k → w.heap[k]? = some o → bookB o = true → w'.heap[k]? = some o
theorem KeepsBk.trans {B : Nat} {a b c : World} (h : KeepsBk B a b) (k : KeepsBk B b c) : KeepsBk B a c := ⟨Nat.le_trans h.1 k.1, fun i o hi ho hb => k.2 i o hi (h.2 i o hi ho hb) hb⟩
/-- what abides a turn of blocks of book-keeping from B on -/
def OwnBk {β : Type} (B : Nat) (I : β → World → Prop) : Prop := ∀ (s : β) (A C : World) (row : Option Nat), I s A → A.grownBy C row → (∀ r, row = some r → B ≤ r ∧ ∃ o : Obj, A.heap[r]? = some o ∧ bookB o = true) → I s C
theorem OwnBk.alloc {β : Type} {B : Nat} {I : β → World → Prop} (h : OwnBk B I) {s : β} {W : World} (o : Obj) (hi : I s W) : I s (W.alloc o) := h s W _ none hi (World.grownBy_alloc W o none) (fun r e => by cases e)
theorem OwnBk.putObj {β : Type} {B : Nat} {I : β → World → Prop} (h : OwnBk B I) {s : β} {W : World} {l : Nat} (o : Obj) {o0 : Obj} (hi : I s W) (hl : B ≤ l) (h0 : W.heap[l]? = some o0) (hb : bookB o0 = true) : I s (W.putObj l o) :=
  h s W _ (some l) hi (grownBy_putObj' W l o) (fun r e => by cases e; exact ⟨hl, o0, h0, hb⟩)
theorem OwnBk.and {β : Type} {B : Nat} {I J : β → World → Prop} (h : OwnBk B I) (k : OwnBk B J) : OwnBk B (fun s W => I s W ∧ J s W) := fun s A C row hs hg hr => ⟨h s A C row hs.1 hg hr, k s A C row hs.2 hg hr⟩

/-- the contract of an iterator that changes nothing itself, whatever each round does: no round leaves the loop -/
def SeqBk {α : Type} (F : Fence) (n : Nat) (P : Program) (g : Nat) (lb : Array Value) (encs : α → Array Value) (Kp : World → World → Prop) (S : List α → Prop) (N : Nat) (w : World) : Prop :=
  ∀ (l : Nat) (J : List α → World → Prop) (W : World), Below w.heap.size w W →
    (∀ pre x W1, J pre W1 → pre.length < N → YieldAt F (n - 1) P l (encs x) W1 fun e W' => e = .returned (.bool true) ∧ J (pre ++ [x]) W' ∧ Kp W1 W') →
    J [] W → CallsIn F n P g (#[.func (.yield l) #[] #[]] ++ lb) W fun e W' => (∃ v, e = .returned v) ∧ ∃ xs, S xs ∧ J xs W'
/-- how the round's body may be left -/
def bkPost {α : Type} (B : Nat) (Kp : World → World → Prop) (I : List α → World → Prop) (xs : List α) (W : World) : Exit → Act → World → Prop
  | .normal, _, W' => KeepsBk B W W' ∧ Kp W W' ∧ I xs W'
  | _, _, _ => False

variable {F : Fence} {n : Nat} {P : Program}
theorem range_maps {α : Type} {g : Operand} {ps : Array Tmp} {assign body : Code} {Q : Exit → Act → World → Prop} {a : Act} {w : World}
    (hro : F.round = none) (h1 : 1 ≤ n) {gf : Nat} {lb : Array Value} (hg : a.eval g = .func (.func gf) #[] lb) (hFg : F.fn gf) (eg : ∀ args w, (callFunc gf args).run P w = .ok (.enter gf args) w)
    {encs : α → Array Value} {Kp : World → World → Prop} {S : List α → Prop} {N : Nat} {w0 : World} (hseq : SeqBk F (n - 1) P gf lb encs Kp S N w0)
    (hKt : ∀ {A B C : World}, Kp A B → Kp B C → Kp A C)
    (hKb : ∀ (W : World) (l : Nat) (o o' : Obj), w.heap.size ≤ l → W.heap[l]? = some o → o.isCells = false → o.isWalk = false → Kp W (W.putObj l o'))
    (hb0 : Below w0.heap.size w0 w) (hps : ∀ x, (encs x).size = ps.size)
    (I : List α → World → Prop) (hI : OwnBk w.heap.size I) (h0 : I [] w) (Ax : α → Act → World → Prop) (hAx : ∀ x a', OwnBk w.heap.size (fun (_ : Unit) W => Ax x a' W))
    (hassign : ∀ (l : Nat) (pre : List α) (x : α) (W : World) (K : Act → World → Prop), I pre W → (∀ a' W', KeepsBk w.heap.size W W' → Kp W W' → I pre W' → Ax x a' W' → K a' W') →
      assign.wpIn (F.inRound l) (n - 1 - 1) P (Exit.then K (fun _ _ _ => False)) { tmps := (ps.zip (encs x)).foldl (fun t (p, v) => t.setIfInBounds p v) a.tmps, defers := [] } W)
    (hbody : ∀ (l : Nat) (pre : List α) (x : α) (a' : Act) (W : World), I pre W → Ax x a' W → pre.length < N → body.wpIn (F.inRound l) (n - 1 - 1) P (bkPost w.heap.size Kp I (pre ++ [x]) W) a' W)
    (hdone : ∀ (D : Nat) (xs : List α) (W : World), w.heap.size ≤ D → S xs → I xs W → W.heap[D]? = some (.deferred (some [])) → Q .normal { a with defers := { target := .collected D, args := #[] } :: a.defers } W) :
    (Code.rangeFunc g ps assign body).wpIn F n P Q a w := by
  refine wpIn_rangeFunc fun fn hfn => ?_
  rw [hro]
  -- the record in its three states, and the world in which the iterator is called
  let rec_ (s : LoopState) (p : Option Code) : Loop := { state := s, pending := p, fn, tmps := a.tmps, params := ps, assign, body, defers := w.heap.size }
  let D := w.heap.size
  let L := w.heap.size + 1
  let Rdy (W : World) : Prop := W.heap[L]? = some (.loop (rec_ .ready none)) ∧ W.heap[D]? = some (.deferred (some []))
  let Gone (W : World) : Prop := W.heap[L]? = some (.loop (rec_ .done (some .ret))) ∧ W.heap[D]? = some (.deferred (some []))
  obtain ⟨V, hV⟩ : ∃ V, V = (w.alloc (.deferred (some []))).alloc (.loop (rec_ .ready none)) := ⟨_, rfl⟩
  have vR : Rdy V := by
    rw [hV]
    refine ⟨?_, (Below.heap_alloc _ _ _ (by simp [D])).trans (World.alloc_heap_new w _)⟩
    have h := World.alloc_heap_new (w.alloc (.deferred (some []))) (.loop (rec_ .ready none))
    rwa [World.size_alloc] at h
  have vI : I [] V := by rw [hV]; exact hI.alloc _ (hI.alloc _ h0)
  have vB : Below w0.heap.size w0 V := by rw [hV]; exact hb0.trans ((((Below.refl _ w).alloc (Nat.le_refl _) _).alloc (by simp) _).mono hb0.size)
  have vS : w.heap.size ≤ V.heap.size := by rw [hV]; simp; omega
  refine ⟨L, [{ target := .collected D, args := #[] }], V, { target := .fn (.func gf) lb, args := #[.func (.yield L) #[] #[]] }, V, gf, #[.func (.yield L) #[] #[]] ++ lb, V, ?_, ?_, ?_, ?_, fun _ => h1, ?_⟩
  · rw [hV]; exact run_enterLoop_outer _ _ _ _ _
  · simp only [resolve, hg]
    simp [go_sem]
  · intro f' hf'
    simp [Target.leads] at hf'
    subst hf'
    exact hFg
  · simp [invoke, go_sem, eg]
  refine (hseq L (fun pre W => I pre W ∧ Rdy W) V vB ?_ ⟨vI, vR⟩).mono ?_
  · rintro pre x W ⟨hi, hl, hk⟩ hlen
    have hy := run_yield (P := P) (args := encs x) hl (hps x)
    refine ⟨fn, _, assign, body, hy, roundIn_of_wpIn hfn (hassign _ pre x W _ hi ?_)⟩
    intro a' Wa hka hkpa hia hax
    have hl := hka.2 _ _ (by simp [L]) hl rfl
    have hk := hka.2 _ _ (Nat.le_refl _) hk rfl
    refine ⟨_, run_beginRound hl rfl, ?_⟩
    have hlt : L < Wa.heap.size := (Array.getElem?_eq_some_iff.1 hl).1
    obtain ⟨X, hX⟩ : ∃ X, X = Wa.putObj L (.loop { rec_ .ready none with state := .busy }) := ⟨_, rfl⟩
    have xL : X.heap[L]? = some (.loop { rec_ .ready none with state := .busy }) := by rw [hX]; exact World.putObj_heap_same hlt
    have xD : X.heap[D]? = some (.deferred (some [])) := by rw [hX]; exact (World.putObj_heap_other (by simp [D, L])).trans hk
    have xK : Kp Wa X := by rw [hX]; exact hKb _ _ _ _ (by simp [L]) hl rfl rfl
    have xI : I pre X := by rw [hX]; exact hI.putObj _ hia (by simp [L]) hl rfl
    have xA : Ax x a' X := by rw [hX]; exact (hAx x a').putObj (s := ()) _ hax (by simp [L]) hl rfl
    show body.wpIn _ _ _ _ _ (Wa.putObj L (.loop { rec_ .ready none with state := .busy }))
    rw [← hX]
    refine wpIn_mono (hbody _ pre x a' X xI xA hlen) ?_
    intro e a3 Y hp
    match e, hp with
    | .normal, ⟨q1, q2, q3⟩ =>
      have yL := q1.2 _ _ (by simp [L]) xL rfl
      exact ⟨_, _, run_endRound (P := P) none yL, ⟨rfl, ⟨hI.putObj _ q3 (by simp [L]) yL rfl, World.putObj_heap_same (Array.getElem?_eq_some_iff.1 yL).1, (World.putObj_heap_other (by simp [D, L])).trans (q1.2 _ _ (Nat.le_refl _) xD rfl)⟩, hKt (hKt (hKt hkpa xK) q2) (hKb _ _ _ _ (by simp [L]) yL rfl rfl)⟩⟩
  · rintro e W ⟨⟨v, rfl⟩, ⟨xs, hS, hi, hl, hk⟩⟩
    exact ⟨none, _, run_endLoop (P := P) hl (by simp [rec_]), hdone D xs _ (Nat.le_refl _) hS (hI.putObj _ hi (by simp [L]) hl rfl) ((World.putObj_heap_other (by simp [D, L])).trans hk)⟩

end Go.Proofs.YtdpcjafkahhecaaGreatDoor
