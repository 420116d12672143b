/- The specification's With. -/
import Derived.Test.YtggbflogndpnoaaMarV
namespace Go.Proofs.Ytggbflogndpnoaa
open Go.RowKit Go.Shelf Go.Maps
set_option linter.unusedSimpArgs false
set_option linter.unusedVariables false

/-- the first k of those that are sold with a segment -/
def wiF (l : List Int) (a k : Nat) : List Int := ((List.range k).filter (wiB l a)).map fun (i : Nat) => (i : Int)
theorem wiF_step (l : List Int) (a k : Nat) : wiF l a (k + 1) = wiF l a k ++ (if wiB l a k = true then [(k : Int)] else []) := by
  unfold wiF
  rw [List.range_succ, List.filter_append, List.map_append]
  congr 1
  cases h : wiB l a k <;> simp [h]
theorem wiF_len (l : List Int) (a k : Nat) : (wiF l a k).length ≤ k := by
  unfold wiF
  rw [List.length_map]
  have := List.length_filter_le (wiB l a) (List.range k)
  simpa using this
theorem in_err {l : List Int} {i : Int} (hc : chkP l = 0) : inE l i = if i < 0 ∨ (l.length : Int) ≤ i then 2 else 0 := by
  unfold inE
  rw [if_neg (by rw [hc]; simp)]

set_option maxRecDepth 100000 in
set_option maxHeartbeats 8000000 in
theorem rwith_any (A : Option Addr) (c : Nat) (l : List Int) (j : Int) (w : World) (hl : l.length ≤ 1000) (hL : IntR w (.slice A l.length c) l) :
    Calls Try.prog 14 #[.slice A l.length c, .int .i64 j] w (LstR (withP l j) (inE l j) w) := by
  have HC : Hid (∀ k, k < l.length → ∃ b o, A = some ⟨b, o, none⟩ ∧ w.cell? ⟨b, o + k, none⟩ = some (.int .i64 (atP l k))) := Lib.hid (fun k hk => int_at hL (atP_get hk))
  have KC := Lib.hid (rcheck_any A c l w hl hL)
  obtain ⟨n, hn⟩ : ∃ n, n = l.length := ⟨_, rfl⟩
  have HN := Lib.hid hn
  rw [← hn] at hl KC HC
  rw [← hn]
  obtain ⟨ce, hce⟩ : ∃ ce, ce = chkP l := ⟨_, rfl⟩
  rw [← hce] at KC
  clear hL hn
  by_cases h0 : ce = 0
  rotate_left
  · have hq : inE l j = ce := by unfold inE; rw [← hce, if_pos h0]
    have HF : Hid (∀ W, Below w.heap.size w W → LstR (withP l j) (inE l j) w (.returned (.tuple #[.slice none 0 0, .int .i64 ce])) W) := Lib.hid (fun W h => lst_err (by unfold withP; rw [hq, if_neg h0]) hq h rfl)
    have g0 : (ce != 0) = true := by simpa using h0
    clear hce h0 hq
    go_enter Try.func14, Try.ntmps14
    go_wp2_with (go_at_call 11; refine KC.out.mono ?_; rintro e w2 ⟨rfl, hb2⟩)
    refine bodyPost_ret (results_tmp2 rfl _ _ _) rfl ?_
    exact HF.out _ hb2
  · have hE := hce.symm.trans h0
    clear hce
    subst h0
    by_cases g : j < 0 ∨ (n : Int) ≤ j
    · have hq : inE l j = 2 := by rw [in_err hE, if_pos (by rw [← HN.out]; exact g)]
      have HF : Hid (∀ W, Below w.heap.size w W → LstR (withP l j) (inE l j) w (.returned (.tuple #[.slice none 0 0, .int .i64 2])) W) := Lib.hid (fun W h => lst_err (by unfold withP; rw [hq]; rfl) hq h rfl)
      clear hq
      by_cases g1 : j < 0
      · have d0 : decide (j < 0) = true := decide_eq_true g1
        clear g g1
        go_enter Try.func14, Try.ntmps14
        go_wp2_with (go_at_call 11; refine KC.out.mono ?_; rintro e w2 ⟨rfl, hb2⟩)
        refine bodyPost_ret (results_tmp2 rfl _ _ _) rfl ?_
        exact HF.out _ hb2
      · have d0 : decide (j < 0) = false := decide_eq_false g1
        have d1 : decide ((n : Int) ≤ j) = true := decide_eq_true (by omega)
        clear g g1
        go_enter Try.func14, Try.ntmps14
        go_wp2_with (go_at_call 11; refine KC.out.mono ?_; rintro e w2 ⟨rfl, hb2⟩)
        refine bodyPost_ret (results_tmp2 rfl _ _ _) rfl ?_
        exact HF.out _ hb2
    · have hq : inE l j = 0 := by rw [in_err hE, if_neg (by rw [← HN.out]; exact g)]
      obtain ⟨a, rfl⟩ : ∃ a : Nat, j = (a : Int) := ⟨j.toNat, by omega⟩
      have HF : Hid (∀ W v k, ROwn 3 1 encI w.heap.size W v (wiF l a k) → k = n → Below w.heap.size w W → LstR (withP l (a : Int)) (inE l (a : Int)) w (.returned (.tuple #[v, .int .i64 0])) W) := Lib.hid (fun W v k h hk hb => ⟨v, by rw [hq], by
        have h1 := h.rowL rowI.len
        unfold withP
        rw [if_pos hq, Int.toNat_natCast]
        unfold wiP
        unfold wiF at h1
        rw [hk, HN.out] at h1
        exact h1, hb⟩)
      have d0 : decide ((a : Int) < 0) = false := decide_eq_false (by omega)
      have d1 : decide ((n : Int) ≤ (a : Int)) = false := decide_eq_false (by omega)
      have d1' : decide (n ≤ a) = false := decide_eq_false (by omega)
      have han : a < n := by omega
      obtain ⟨b, o, rfl, hca⟩ := HC.out a han
      obtain ⟨z, hz⟩ : ∃ z, z = atP l a := ⟨_, rfl⟩
      rw [← hz] at hca
      have HD : Hid (∀ k, k < n → w.cell? ⟨b, o + k, none⟩ = some (.int .i64 (atP l k))) := Lib.hid (fun k hk => by
        obtain ⟨b', o', e, hc⟩ := HC.out k hk
        cases e
        exact hc)
      have HCA := Lib.hid hca
      have HWB : Hid (∀ k, wiB l a k = (decide (k = a) || (decide (0 < atP l k) && decide (atP l k = z)))) := Lib.hid (fun k => by unfold wiB; rw [hz])
      clear g hq hE hz HC hca
      go_enter Try.func14, Try.ntmps14
      go_wp2_with (go_at_call 11; refine KC.out.mono ?_; rintro e w2 ⟨rfl, hb2⟩)
      have HS0 : Hid (ROwn 3 1 encI w.heap.size w2 (.slice none 0 0) (wiF l a 0) ∧ Below w.heap.size w w2) := Lib.hid ⟨ROwn.nil hb2.size, hb2⟩
      clear hb2
      go_loopw [8, 7] (fun vi v wr => ∃ (i : Nat) (u : Value), i ≤ n ∧ vi = .int .i64 (i : Int) ∧ u = v ∧ Hid (ROwn 3 1 encI w.heap.size wr u (wiF l a i) ∧ Below w.heap.size w wr)) (fun vi _ _ => n - (intOf vi).toNat)
      case atStart => exact ⟨0, _, Nat.zero_le _, rfl, rfl, HS0⟩
      case round =>
        clear HS0
        obtain ⟨i, u, hi, rfl, rfl, HS⟩ := hrel
        by_cases hlt : i < n
        · have c0 := bel_cell HS.out.2 (HD.out i hlt)
          have c1 := bel_cell HS.out.2 HCA.out
          obtain ⟨x, hx⟩ : ∃ x, x = atP l i := ⟨_, rfl⟩
          rw [← hx] at c0
          have i1 : (i : Int) < (n : Int) := by omega
          have i2 : (0 : Int) ≤ (i : Int) := by omega
          have i3 : (a : Int) < (n : Int) := by omega
          have i4 : (0 : Int) ≤ (a : Int) := by omega
          have HST := Lib.hid (wiF_step l a i)
          have HLN := Lib.hid (wiF_len l a i)
          have HWI := Lib.hid (HWB.out i)
          rw [← hx] at HWI
          have HDR := Lib.hid (fun m => And.intro (HS.out.1.more (below_drewN (Below.refl _ wr) m)) (below_drewN HS.out.2 m))
          clear hx
          by_cases hia : i = a
          · have e0 : ((i : Int) == (a : Int)) = true := by rw [beq_iff_eq]; omega
            have HW : Hid (wiB l a i = true) := Lib.hid (by rw [HWI.out, decide_eq_true hia]; rfl)
            clear hia
            go_wp2
            go_quiet (fail)
            have hDR := HDR.out nq
            generalize wr.drewN nq = w5 at *
            clear HDR
            have HO := Lib.hid hDR
            clear hDR
            go_wp2_with (at_builtin; refine wpList_rapp rowI rfl _ _ rfl HO.out.1 rfl (bel_alloc _ _) _ (i : Int) _ rfl (cs := #[.int .i64 (i : Int)]) rfl (heap_alloc_new _ _) (by have := HLN.out; omega) ?_; intro v1 w1x hO1 hC1)
            have HN1 : Hid (ROwn 3 1 encI w.heap.size w1x v1 (wiF l a (i + 1)) ∧ Below w.heap.size w w1x) := Lib.hid ⟨by rw [HST.out, if_pos HW.out]; exact hO1, HO.out.2.trans (hC1.below HO.out.1)⟩
            clear hO1 hC1
            go_roundw
            case rel => exact ⟨i + 1, v1, by omega, by go_num, rfl, HN1⟩
            case measure => simp [intOf]; omega
          · have e0 : ((i : Int) == (a : Int)) = false := by rw [beq_eq_false_iff_ne]; omega
            by_cases hp : 0 < x
            · have d3 : decide (0 < x) = true := decide_eq_true hp
              by_cases hxz : x = z
              · have e1 : (x == z) = true := by rw [beq_iff_eq]; exact hxz
                have HW : Hid (wiB l a i = true) := Lib.hid (by rw [HWI.out, d3, decide_eq_true hxz]; simp)
                clear hia hp hxz
                go_wp2
                go_quiet (fail)
                have hDR := HDR.out nq
                generalize wr.drewN nq = w5 at *
                clear HDR
                have HO := Lib.hid hDR
                clear hDR
                go_wp2_with (at_builtin; refine wpList_rapp rowI rfl _ _ rfl HO.out.1 rfl (bel_alloc _ _) _ (i : Int) _ rfl (cs := #[.int .i64 (i : Int)]) rfl (heap_alloc_new _ _) (by have := HLN.out; omega) ?_; intro v1 w1x hO1 hC1)
                have HN1 : Hid (ROwn 3 1 encI w.heap.size w1x v1 (wiF l a (i + 1)) ∧ Below w.heap.size w w1x) := Lib.hid ⟨by rw [HST.out, if_pos HW.out]; exact hO1, HO.out.2.trans (hC1.below HO.out.1)⟩
                clear hO1 hC1
                go_roundw
                case rel => exact ⟨i + 1, v1, by omega, by go_num, rfl, HN1⟩
                case measure => simp [intOf]; omega
              · have e1 : (x == z) = false := beq_eq_false_iff_ne.2 hxz
                have HW : Hid (wiB l a i = false) := Lib.hid (by rw [HWI.out, decide_eq_false hia, decide_eq_false hxz]; simp)
                clear hia hp hxz
                go_wp2
                go_quiet (fail)
                have hDR := HDR.out nq
                generalize wr.drewN nq = w5 at *
                clear HDR
                have HN1 : Hid (ROwn 3 1 encI w.heap.size w5 u (wiF l a (i + 1)) ∧ Below w.heap.size w w5) := Lib.hid ⟨by rw [HST.out, if_neg (by rw [HW.out]; exact Bool.false_ne_true), List.append_nil]; exact hDR.1, hDR.2⟩
                clear hDR
                go_wp2
                go_roundw
                case rel => exact ⟨i + 1, u, by omega, by go_num, rfl, HN1⟩
                case measure => simp [intOf]; omega
            · have d3 : decide (0 < x) = false := decide_eq_false hp
              have HW : Hid (wiB l a i = false) := Lib.hid (by rw [HWI.out, decide_eq_false hia, d3]; rfl)
              clear hia hp
              go_wp2
              go_quiet (fail)
              have hDR := HDR.out nq
              generalize wr.drewN nq = w5 at *
              clear HDR
              have HN1 : Hid (ROwn 3 1 encI w.heap.size w5 u (wiF l a (i + 1)) ∧ Below w.heap.size w w5) := Lib.hid ⟨by rw [HST.out, if_neg (by rw [HW.out]; exact Bool.false_ne_true), List.append_nil]; exact hDR.1, hDR.2⟩
              clear hDR
              go_wp2
              go_roundw
              case rel => exact ⟨i + 1, u, by omega, by go_num, rfl, HN1⟩
              case measure => simp [intOf]; omega
        · have i1 : ¬ (i : Int) < (n : Int) := by omega
          have HG := Lib.hid (HF.out wr u i HS.out.1 (by omega) HS.out.2)
          clear hlt
          go_wp2
          refine bodyPost_ret (results_tmp2 rfl _ _ _) rfl ?_
          exact HG.out
end Go.Proofs.Ytggbflogndpnoaa
