/- Walks of the difference of periods, beside the reference's. -/
import Derived.Test.YtnfdmdhpbaifiaaPerJ
namespace Go.Proofs.Ytnfdmdhpbaifiaa
open Go.RowKit
set_option linter.unusedSimpArgs false
set_option linter.unusedVariables false

theorem heap_second (w : World) (o o' : Obj) : ((w.alloc o).alloc o').heap[w.heap.size + 1]? = some o' := by
  have h := heap_alloc_new (w.alloc o) o'
  rw [World.size_alloc] at h
  exact h
/-- rows of lists of numbers, one slice a cell, from cell 0 of block P on -/
def RowsL (w : World) (P : Nat) (Ls : List (List Int)) : Prop := P < w.heap.size ∧ ∀ i (h : i < Ls.length), ∃ v, w.cell? ⟨P, i, none⟩ = some v ∧ IntL w v Ls[i]
theorem RowsL.more {w w' : World} {P : Nat} {Ls : List (List Int)} (h : RowsL w P Ls) (hb : Below w.heap.size w w') : RowsL w' P Ls :=
  ⟨Nat.lt_of_lt_of_le h.1 hb.size, fun i hi => let ⟨v, h1, h2⟩ := h.2 i hi; ⟨v, (hb.cell (p := ⟨P, i, none⟩) h.1).trans h1, h2.more hb⟩⟩
/-- the canonical periods of lists, those without days omitted -/
def normsL (Ls : List (List Int)) : List Per := (Ls.filter fun x => decide (x ≠ [])).map accQ
theorem normsL_map (l : List Per) : normsL (l.map daysQ) = normsQ l := rfl
theorem normsL_step (Ls : List (List Int)) (k : Nat) (h : k < Ls.length) : normsL (Ls.take (k + 1)) = if Ls[k] = [] then normsL (Ls.take k) else normsL (Ls.take k) ++ [accQ Ls[k]] := by
  rw [List.take_succ_eq_append_getElem h]
  unfold normsL
  rw [List.filter_append, List.map_append]
  by_cases h0 : Ls[k] = []
  · rw [if_pos h0, h0]; simp
  · rw [if_neg h0]; simp [h0]
theorem normsL_short (Ls : List (List Int)) : (normsL Ls).length ≤ Ls.length := by
  unfold normsL; rw [List.length_map]; exact List.length_filter_le _ _
/-- a box and the growth since w1 -/
def BB (w1 : World) (B : Nat) (b : Per) (W : World) : Prop := W.cell? ⟨B, 0, none⟩ = some (.int .i64 b.1) ∧ W.cell? ⟨B, 1, none⟩ = some (.int .i64 b.2.1) ∧ W.cell? ⟨B, 2, none⟩ = some (.int .i64 b.2.2) ∧ Below w1.heap.size w1 W
theorem BB.of {w1 : World} {B : Nat} {b : Per} (h : BoxAt w1 B b) {W : World} (hb : Below w1.heap.size w1 W) : BB w1 B b W := ⟨(h.more hb).cell.1, (h.more hb).cell.2.1, (h.more hb).cell.2.2, hb⟩
theorem part_bb {w1 : World} {B : Nat} {b : Per} (hB : BoxAt w1 B b) (v : Value) (l : List Int) (x y : Int) (hv : IntL w1 v l) (hl : l.length ≤ 1000) (hr : ∀ n ∈ l, 0 ≤ n ∧ n < 36525) (W : World) (hS : BB w1 B b W) :
    Calls Try.prog 34 #[v, .int .i64 x, .int .i64 y, encQ b] W fun e w' => ∃ A c, e = .returned (.slice A (partQ l x y b).length c) ∧ IntL w' (.slice A (partQ l x y b).length c) (partQ l x y b) ∧ BB w1 B b w' ∧ Below W.heap.size W w' :=
  (part_any v l x y b W (hv.more hS.2.2.2) hl hr).mono (by
    rintro e w' ⟨u, rfl, hL, hb⟩
    have hL2 := hL
    obtain ⟨A, c, rfl, _⟩ := hL
    exact ⟨A, c, rfl, hL2, BB.of hB (hS.2.2.2.trans (hb.mono hS.2.2.2.size)), hb⟩)

set_option maxRecDepth 100000 in
set_option maxHeartbeats 4000000 in
theorem rwithout_any (a b : Per) (w : World) (ha : b643 a) : Calls Try.prog 24 #[encQ a, encQ b] w fun e W' => ∃ v, e = .returned v ∧ PerL W' v (withQ a b) ∧ Below w.heap.size w W' := by
  have CD := Lib.hid (fun W => rdays_any a.1 a.2.1 a.2.2 W ha.1.1 ha.1.2)
  have hl := daysQ_len a
  have hr := daysQ_range a
  rw [show daysQ (a.1, a.2.1, a.2.2) = daysQ a from rfl] at CD
  have CB := Lib.hid (fun W => rcheck_any b.1 b.2.1 b.2.2 W)
  have hbB := box_second w (.cells #[.int .i64 a.1, .int .i64 a.2.1, .int .i64 a.2.2] perT) b
  have hb0 : Below w.heap.size w ((w.alloc (.cells #[.int .i64 a.1, .int .i64 a.2.1, .int .i64 a.2.2] perT)).alloc (.cells #[.int .i64 b.1, .int .i64 b.2.1, .int .i64 b.2.2] perT)) := (bel_alloc w _).alloc (by simp) _
  cases hb' : okQ b
  · have he := errQ_two hb'
    have HW : Hid (withQ a b = normsL [daysQ a]) := Lib.hid (by
      unfold withQ
      cases hoa : okQ a
      · simp [normsL, daysQ_no hoa]
      · simp [hb']; rfl)
    rw [show errQ (b.1, b.2.1, b.2.2) = errQ b from rfl] at CB
    generalize errQ b = z at *
    generalize daysQ a = l at *
    clear hb'
    go_enter Try.func24, Try.ntmps24
    go_wp2_with (first | (go_at_call 14; refine (CD.out _).mono ?_; rintro e w1 ⟨v, rfl, hL, hb⟩; have hB1 := hbB.more hb; have c0 := hB1.cell.1; have c1 := hB1.cell.2.1; have c2 := hB1.cell.2.2; have hB2 := hB1.more (bel_alloc w1 (.cells #[v] 28)); have d0 := hB2.cell.1; have d1 := hB2.cell.2.1; have d2 := hB2.cell.2.2; have HL := Lib.hid hL; obtain ⟨A, c, rfl, hc⟩ := hL; clear hc) | (go_at_call 9; refine (CB.out _).mono ?_; rintro e w5 ⟨rfl, hb5⟩))
    have hs1 : Below w.heap.size w w1 := hb0.trans (hb.mono (by simp; omega))
    have hs5 : Below w.heap.size w w5 := (hs1.alloc hs1.size _).trans (hb5.mono (Nat.le_trans hs1.size (by simp)))
    obtain ⟨Ls, hLs⟩ : ∃ Ls, Ls = [l] := ⟨_, rfl⟩
    have hN : Ls.length = 1 := by rw [hLs]; rfl
    rw [← hLs] at HW
    have HLn : Hid (∀ L ∈ Ls, L.length ≤ 1000 ∧ ∀ n ∈ L, 0 ≤ n ∧ n < 36525) := Lib.hid (by rw [hLs]; intro L h; rw [List.mem_singleton] at h; rw [h]; exact ⟨by omega, hr⟩)
    have hRL : RowsL w5 w1.heap.size Ls := RowsL.more (w := w1.alloc (.cells #[.slice A l.length c] 28)) (by
      refine ⟨by simp, fun i hi => ?_⟩
      have h0 : i = 0 := by omega
      subst h0
      refine ⟨.slice A l.length c, cell_of_row _ _ 0 _ _ (0, 0) (heap_alloc_new w1 _), ?_⟩
      have e : Ls[0] = l := by simp [hLs]
      rw [e]
      exact HL.out.more (bel_alloc _ _)) hb5
    clear hLs hb5 hb c0 c1 c2 d0 d1 d2 hB1 hB2 hbB HL hs1 hb0 CD CB
    go_loopw [7, 8] (fun vo vi wr => ∃ k : Nat, k ≤ 1 ∧ vi = .int .i64 k ∧ POwn 23 w5.heap.size wr vo (normsL (Ls.take k)) ∧ Below w5.heap.size w5 wr) (fun _ vi _ => 1 - (intOf vi).toNat)
    case atStart => exact ⟨0, Nat.zero_le _, rfl, POwn.nil (Nat.le_refl _), Below.refl _ _⟩
    case round =>
      obtain ⟨k, hk, rfl, hO, hb⟩ := hrel
      by_cases hlt3 : k < 1
      · have hlt : k < Ls.length := by omega
        obtain ⟨v, g0, hv⟩ := (hRL.more hb).2 k hlt
        have i1 : (k : Int) < 1 := by omega
        have HF := Lib.hid (normsL_step Ls k hlt)
        have hsh := normsL_short (Ls.take k)
        rw [List.length_take] at hsh
        have hln := HLn.out Ls[k] (List.getElem_mem hlt)
        have CO := Lib.hid (fun (W : World) (hw2 : IntL W v Ls[k]) => rof_any v Ls[k] W hw2 hln.1 hln.2)
        have HV := Lib.hid hv
        obtain ⟨A, c, rfl, hc⟩ := hv
        clear hc hln
        by_cases he : Ls[k] = []
        · rw [if_pos he] at HF
          rw [show ofQ Ls[k] = ((0, 0, 0), false) by rw [he]; rfl] at CO
          clear he
          generalize Ls[k].length = m at *
          go_wp2_with (go_at_call 31; refine (CO.out _ HV.out).mono ?_; rintro e w6 ⟨rfl, hb6⟩)
          go_roundw
          case rel => exact ⟨k + 1, by omega, by go_num, by rw [HF.out]; exact (hO.more hb6).alloc _, (hb.trans (hb6.mono hb.size)).alloc (Nat.le_trans hb.size hb6.size) _⟩
          case measure => simp [intOf]; omega
        · rw [if_neg he] at HF
          rw [show ofQ Ls[k] = (accQ Ls[k], true) by rw [ofQ]; simp [he]] at CO
          clear he
          generalize accQ Ls[k] = q at *
          generalize Ls[k].length = m at *
          go_wp2_with (first | (go_at_call 31; refine (CO.out _ HV.out).mono ?_; rintro e w6 ⟨rfl, hb6⟩; have hO6 := hO.more hb6) | (refine wpList_papp rfl _ _ rfl _ (normsL (Ls.take k)) rfl ((hO6.alloc _).alloc _) _ q 1 rfl (heap_second _ _ _) (by omega) ?_; intro v' w7 hO7 hb7))
          go_roundw
          case rel =>
            refine ⟨k + 1, by omega, by go_num, by rw [HF.out]; exact hO7, ?_⟩
            have h6 := hb.trans (hb6.mono hb.size)
            exact ((h6.alloc h6.size _).alloc (Nat.le_trans h6.size (by simp)) _).trans hb7
          case measure => simp [intOf]; omega
      · rw [List.take_of_length_le (by omega)] at hO
        go_wp2
        go_ret
        exact ⟨_, rfl, by rw [HW.out]; exact .of_own hO.own, hs5.trans (hb.mono hs5.size)⟩
  · have he := errQ_ok hb'
    rw [show errQ (b.1, b.2.1, b.2.2) = errQ b from rfl, he] at CB
    clear he
    have HW : Hid (withQ a b = normsL [partQ (daysQ a) 0 (b.1 - 1) b, partQ (daysQ a) b.1 b.2.1 b, partQ (daysQ a) (b.2.1 + 1) 36525 b]) := Lib.hid (by
      unfold withQ
      cases hoa : okQ a
      · simp [normsL, daysQ_no hoa, partQ]
      · rw [before_days a b hoa hb', dur_days a b hoa hb', after_days a b hoa hb']
        simp [hb']; rfl)
    have hq := okQ_yes hb'
    have w1' : IntKind.i64.wrap (b.1 - 1) = b.1 - 1 := by rw [IntKind.wrap_i64]; omega
    have w2' : IntKind.i64.wrap (b.2.1 + 1) = b.2.1 + 1 := by rw [IntKind.wrap_i64]; omega
    generalize daysQ a = l at *
    clear hb' hq
    go_enter Try.func24, Try.ntmps24
    go_wp2_with (first | (go_at_call 14; refine (CD.out _).mono ?_; rintro e w1 ⟨v, rfl, hL, hb⟩; have hB1 := hbB.more hb; have c0 := hB1.cell.1; have c1 := hB1.cell.2.1; have c2 := hB1.cell.2.2; have hB2 := hB1.more (bel_alloc w1 (.cells #[v] 28)); have d0 := hB2.cell.1; have d1 := hB2.cell.2.1; have d2 := hB2.cell.2.2; have HL := Lib.hid hL; obtain ⟨A, c, rfl, hc⟩ := hL; clear hc) | (go_at_call 9; refine (CB.out _).mono ?_; rintro e w3 ⟨rfl, hb3⟩; have hB3 := hB2.more hb3; have HL3 := Lib.hid ((HL.out.more (bel_alloc w1 (.cells #[.slice A l.length c] 28))).more hb3); have e0 := hB3.cell.1; have e1 := hB3.cell.2.1; have e2 := hB3.cell.2.2))
    have hs1 : Below w.heap.size w w1 := hb0.trans (hb.mono (by simp; omega))
    have hs3 : Below w.heap.size w w3 := (hs1.alloc hs1.size _).trans (hb3.mono (Nat.le_trans hs1.size (by simp)))
    clear hb3 hb c0 c1 c2 d0 d1 d2 hB1 hB2 hbB hb0 CD CB HL hs1
    have hk0 := (Below.refl w3.heap.size w3).drew
    have C1 := Lib.hid (part_bb hB3 (.slice A l.length c) l 0 (b.1 - 1) HL3.out (by omega) hr)
    have C2 := Lib.hid (part_bb hB3 (.slice A l.length c) l b.1 b.2.1 HL3.out (by omega) hr)
    have C3 := Lib.hid (part_bb hB3 (.slice A l.length c) l (b.2.1 + 1) 36525 HL3.out (by omega) hr)
    have hl1 := partQ_short l 0 (b.1 - 1) b
    have hl2 := partQ_short l b.1 b.2.1 b
    have hl3 := partQ_short l (b.2.1 + 1) 36525 b
    have hm1 : ∀ n ∈ partQ l 0 (b.1 - 1) b, 0 ≤ n ∧ n < 36525 := fun n hn => hr n (List.mem_filter.1 hn).1
    have hm2 : ∀ n ∈ partQ l b.1 b.2.1 b, 0 ≤ n ∧ n < 36525 := fun n hn => hr n (List.mem_filter.1 hn).1
    have hm3 : ∀ n ∈ partQ l (b.2.1 + 1) 36525 b, 0 ≤ n ∧ n < 36525 := fun n hn => hr n (List.mem_filter.1 hn).1
    generalize partQ l 0 (b.1 - 1) b = l1 at *
    generalize partQ l b.1 b.2.1 b = l2 at *
    generalize partQ l (b.2.1 + 1) 36525 b = l3 at *
    have hS0 := BB.of hB3 hk0
    go_region_held3 (fun W => W.cell? ⟨w.heap.size + 1, 0, none⟩ = some (.int .i64 b.1) ∧ W.cell? ⟨w.heap.size + 1, 1, none⟩ = some (.int .i64 b.2.1) ∧ W.cell? ⟨w.heap.size + 1, 2, none⟩ = some (.int .i64 b.2.2) ∧ RowKit.Below w3.heap.size w3 W) (first | exact hS0 | exact BB.of hB3 (hS3.2.2.2.alloc hS3.2.2.2.size _) | exact hS3 | exact hS2 | exact hS1 | assumption) ((first | (go_at_call 34; first | (with_reducible refine (C1.out _ (by assumption)).mono ?_; rintro e wa ⟨A1, q1, rfl, hL1, hS1, hba⟩) | (with_reducible refine (C2.out _ (by assumption)).mono ?_; rintro e wb ⟨A2, q2, rfl, hL2, hS2, hbb⟩) | (with_reducible refine (C3.out _ (by assumption)).mono ?_; rintro e wc ⟨A3, q3, rfl, hL3, hS3, hbc⟩))))
    have hR5 : RowsL (wc.alloc (.cells #[.slice A1 l1.length q1, .slice A2 l2.length q2, .slice A3 l3.length q3] 28)) wc.heap.size [l1, l2, l3] := by
      have hm := heap_alloc_new wc (.cells #[.slice A1 l1.length q1, .slice A2 l2.length q2, .slice A3 l3.length q3] 28)
      refine ⟨by simp, fun i hi => ?_⟩
      match i, hi with
      | 0, _ => exact ⟨_, cell_of_row _ _ 0 _ _ (0, 0) hm, ((hL1.more hbb).more hbc).more (bel_alloc _ _)⟩
      | 1, _ => exact ⟨_, cell_of_row _ _ 1 _ _ (0, 0) hm, (hL2.more hbc).more (bel_alloc _ _)⟩
      | 2, _ => exact ⟨_, cell_of_row _ _ 2 _ _ (0, 0) hm, hL3.more (bel_alloc _ _)⟩
    have hs5 := hs3.trans ((hS3.2.2.2.alloc hS3.2.2.2.size (.cells #[.slice A1 l1.length q1, .slice A2 l2.length q2, .slice A3 l3.length q3] 28)).mono hs3.size)
    obtain ⟨w5, hw5⟩ : ∃ w5, w5 = wc.alloc (.cells #[.slice A1 l1.length q1, .slice A2 l2.length q2, .slice A3 l3.length q3] 28) := ⟨_, rfl⟩
    rw [← hw5] at hR5 hs5 ⊢
    obtain ⟨Ls, hLs⟩ : ∃ Ls, Ls = [l1, l2, l3] := ⟨_, rfl⟩
    have hN : Ls.length = 3 := by rw [hLs]; rfl
    rw [← hLs] at HW
    have hRL : RowsL w5 wc.heap.size Ls := by rw [hLs]; exact hR5
    have HLn : Hid (∀ L ∈ Ls, L.length ≤ 1000 ∧ ∀ n ∈ L, 0 ≤ n ∧ n < 36525) := Lib.hid (by
      rw [hLs]
      intro L h
      simp only [List.mem_cons, List.not_mem_nil, or_false] at h
      rcases h with rfl | rfl | rfl
      · exact ⟨by omega, hm1⟩
      · exact ⟨by omega, hm2⟩
      · exact ⟨by omega, hm3⟩)
    clear hLs hw5 hR5 hS0 hS1 hS2 hS3 hL1 hL2 hL3 hba hbb hbc C1 C2 C3 hm1 hm2 hm3 hB3 HL3 e0 e1 e2
    go_wp2
    go_loopw [7, 8] (fun vo vi wr => ∃ k : Nat, k ≤ 3 ∧ vi = .int .i64 k ∧ POwn 23 w5.heap.size wr vo (normsL (Ls.take k)) ∧ Below w5.heap.size w5 wr) (fun _ vi _ => 3 - (intOf vi).toNat)
    case atStart => exact ⟨0, Nat.zero_le _, rfl, POwn.nil (Nat.le_refl _), Below.refl _ _⟩
    case round =>
      obtain ⟨k, hk, rfl, hO, hb⟩ := hrel
      by_cases hlt3 : k < 3
      · have hlt : k < Ls.length := by omega
        obtain ⟨v, g0, hv⟩ := (hRL.more hb).2 k hlt
        have i1 : (k : Int) < 3 := by omega
        have HF := Lib.hid (normsL_step Ls k hlt)
        have hsh := normsL_short (Ls.take k)
        rw [List.length_take] at hsh
        have hln := HLn.out Ls[k] (List.getElem_mem hlt)
        have CO := Lib.hid (fun (W : World) (hw2 : IntL W v Ls[k]) => rof_any v Ls[k] W hw2 hln.1 hln.2)
        have HV := Lib.hid hv
        obtain ⟨A, c, rfl, hc⟩ := hv
        clear hc hln
        by_cases he : Ls[k] = []
        · rw [if_pos he] at HF
          rw [show ofQ Ls[k] = ((0, 0, 0), false) by rw [he]; rfl] at CO
          clear he
          generalize Ls[k].length = m at *
          go_wp2_with (go_at_call 31; refine (CO.out _ HV.out).mono ?_; rintro e w6 ⟨rfl, hb6⟩)
          go_roundw
          case rel => exact ⟨k + 1, by omega, by go_num, by rw [HF.out]; exact (hO.more hb6).alloc _, (hb.trans (hb6.mono hb.size)).alloc (Nat.le_trans hb.size hb6.size) _⟩
          case measure => simp [intOf]; omega
        · rw [if_neg he] at HF
          rw [show ofQ Ls[k] = (accQ Ls[k], true) by rw [ofQ]; simp [he]] at CO
          clear he
          generalize accQ Ls[k] = q at *
          generalize Ls[k].length = m at *
          go_wp2_with (first | (go_at_call 31; refine (CO.out _ HV.out).mono ?_; rintro e w6 ⟨rfl, hb6⟩; have hO6 := hO.more hb6) | (refine wpList_papp rfl _ _ rfl _ (normsL (Ls.take k)) rfl ((hO6.alloc _).alloc _) _ q 1 rfl (heap_second _ _ _) (by omega) ?_; intro v' w7 hO7 hb7))
          go_roundw
          case rel =>
            refine ⟨k + 1, by omega, by go_num, by rw [HF.out]; exact hO7, ?_⟩
            have h6 := hb.trans (hb6.mono hb.size)
            exact ((h6.alloc h6.size _).alloc (Nat.le_trans h6.size (by simp)) _).trans hb7
          case measure => simp [intOf]; omega
      · rw [List.take_of_length_le (by omega)] at hO
        go_wp2
        go_ret
        exact ⟨_, rfl, by rw [HW.out]; exact .of_own hO.own, hs5.trans (hb.mono hs5.size)⟩

end Go.Proofs.Ytnfdmdhpbaifiaa
