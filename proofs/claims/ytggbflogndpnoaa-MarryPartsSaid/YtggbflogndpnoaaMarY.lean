/- The specification's Join. -/
import Derived.Test.YtggbflogndpnoaaMarX
namespace Go.Proofs.Ytggbflogndpnoaa
open Go.RowKit Go.Shelf Go.Maps
set_option linter.unusedSimpArgs false
set_option linter.unusedVariables false

set_option maxRecDepth 100000 in
set_option maxHeartbeats 8000000 in
theorem rjoin_any (A : Option Addr) (c : Nat) (l : List Int) (a b : Int) (w : World) (hl : l.length ≤ 1000) (hi : I64L l) (ha : -9223372036854775808 ≤ b ∧ b ≤ 9223372036854775807) (hL : IntR w (.slice A l.length c) l) :
    Calls Try.prog 20 #[.slice A l.length c, .int .i64 a, .int .i64 b] w (LstR (joinP l a b) (joinE l a b) w) := by
  have KC := Lib.hid (rcheck_any A c l w hl hL)
  have HL := Lib.hid hL
  obtain ⟨n, hn⟩ : ∃ n, n = l.length := ⟨_, rfl⟩
  have HN := Lib.hid hn
  have HI := Lib.hid hi
  have HLl := Lib.hid hl
  rw [← hn] at KC hl
  rw [← hn]
  have HX : Hid (joinE l a b ≠ 0 → joinP l a b = []) := Lib.hid (fun h => by unfold joinP; rw [if_neg h])
  have HXE : Hid (joinE l a b = if chkP l ≠ 0 then chkP l else if a < 0 ∨ b ≤ a ∨ (n : Int) ≤ b then 2 else if mrdP l a.toNat b.toNat = true then 18 else if grP l = 9223372036854775807 then 2 else 0) := Lib.hid (by unfold joinE; rw [hn])
  clear hL hn hi
  go_enter Try.func20, Try.ntmps20
  go_upto_region 2 with (go_at_call 11; refine KC.out.mono ?_; rintro e w1 ⟨rfl, hb1⟩)
  obtain ⟨ce, hce⟩ : ∃ ce, ce = chkP l := ⟨_, rfl⟩
  rw [← hce] at HXE ⊢
  have HB := Lib.hid hb1
  by_cases h0 : ce = 0
  · subst h0
    have HXE2 := Lib.hid (HXE.out.trans (if_neg (by simp)))
    clear HXE
    by_cases g : a < 0 ∨ b ≤ a ∨ (n : Int) ≤ b
    · have HE := Lib.hid (HXE2.out.trans (if_pos g))
      have HF : Hid (∀ W e, Below w.heap.size w W → e = .returned (.tuple #[.slice none 0 0, .int .i64 2]) → LstR (joinP l a b) (joinE l a b) w e W) := Lib.hid (fun W e h he => lst_err (HX.out (by rw [HE.out]; decide)) HE.out h he)
      by_cases g1 : a < 0
      · have q1 : decide (a < 0) = true := decide_eq_true g1
        clear g hb1 hce
        go_wp2
        refine bodyPost_ret (results_tmp2 rfl _ _ _) rfl ?_
        exact HF.out _ _ HB.out rfl
      · have q1 : decide (a < 0) = false := decide_eq_false g1
        by_cases g2 : b ≤ a
        · have q2 : decide (b ≤ a) = true := decide_eq_true g2
          clear g hb1 hce g1
          go_wp2
          refine bodyPost_ret (results_tmp2 rfl _ _ _) rfl ?_
          exact HF.out _ _ HB.out rfl
        · have q2 : decide (b ≤ a) = false := decide_eq_false g2
          have q3 : decide ((n : Int) ≤ b) = true := decide_eq_true (by omega)
          clear g hb1 hce g1 g2
          go_wp2
          refine bodyPost_ret (results_tmp2 rfl _ _ _) rfl ?_
          exact HF.out _ _ HB.out rfl
    · have q1 : decide (a < 0) = false := decide_eq_false (by omega)
      have q2 : decide (b ≤ a) = false := decide_eq_false (by omega)
      have q3 : decide ((n : Int) ≤ b) = false := decide_eq_false (by omega)
      have HXE3 := Lib.hid (HXE2.out.trans (if_neg g))
      clear HXE2
      obtain ⟨u, rfl⟩ : ∃ u : Nat, a = (u : Int) := ⟨a.toNat, by omega⟩
      obtain ⟨v, rfl⟩ : ∃ v : Nat, b = (v : Int) := ⟨b.toNat, by omega⟩
      rw [Int.toNat_natCast, Int.toNat_natCast] at HXE3
      obtain ⟨m, hm⟩ : ∃ m, m = v + 1 - u := ⟨_, rfl⟩
      have HMV : Hid ((v : Int) = (u : Int) + (m : Int) - 1 ∧ v + 1 - u = m ∧ v + 1 = u + m) := Lib.hid ⟨by omega, hm.symm, by omega⟩
      have hm1 : 0 < m := by omega
      have q4 : decide (v ≤ u) = false := decide_eq_false (by omega)
      have q5 : decide (n ≤ v) = false := decide_eq_false (by omega)
      have hvn : v < n := by omega
      have HA : Hid (∀ k, k < n → ∃ b0 o, A = some ⟨b0, o, none⟩ ∧ w1.cell? ⟨b0, o + k, none⟩ = some (.int .i64 (atP l k))) := Lib.hid (fun k hk => int_at (HL.out.more hb1) (atP_get (by have := HN.out; omega)))
      have HG : Hid (0 ≤ grP l ∧ grP l ≤ 9223372036854775807) := Lib.hid ⟨grF_ge l _, grF_le HI.out _ (Nat.le_refl _)⟩
      have hb2 := bel_alloc w1 (.cells #[] 3)
      have HO := Lib.hid (ROwn.new (e := 3) (sz := 1) (enc := encI) (B := w1.heap.size) (w := w1) (Nat.le_refl _) [] (fun x => rfl) (cs := #[]) rfl (by simp))
      have HL3 : Hid (IntR (w1.alloc (.cells #[] 3)) (.slice A n c) l) := Lib.hid (by rw [HN.out]; exact (HL.out.more hb1).more hb2)
      have HB2 := Lib.hid hb2
      have KG := Lib.hid (fun W (h : Below w1.heap.size w1 W) => rgreatest_any A c l W HLl.out ((HL.out.more hb1).more h))
      rw [← HN.out] at KG
      obtain ⟨gr, hgr⟩ : ∃ gr, gr = grP l := ⟨_, rfl⟩
      rw [← hgr] at HXE3 HG KG
      have HGR := Lib.hid hgr
      obtain ⟨nx, hnx⟩ : ∃ nx, nx = IntKind.i64.wrap (gr + 1) := ⟨_, rfl⟩
      have hw : IntKind.i64.wrap (gr + 1) = nx := hnx.symm
      have HNX := Lib.hid hnx
      clear g hb1 hb2 hce KC hgr hm hnx
      go_wp2_with (first
        | (at_builtin; refine wpList_rappl rowI rfl _ _ rfl HO.out rfl l _ rfl HL3.out (by simp; have := HN.out; omega) ?_; intro v' w' hO1 hC1; have HC1 := Lib.hid hC1; have HO1 := Lib.hid hO1; have hb5 := HB2.out.trans (hC1.below HO.out); clear hO1 hC1)
        | (go_at_call 28; refine (KG.out _ hb5).mono ?_; rintro e w6 ⟨rfl, rfl⟩))
      obtain ⟨g, cap, rfl, hcap, hg, hr⟩ := ROwn.rowC (s := l) (by simpa using HO1.out) (by intro e; have := HN.out; rw [e] at this; simp at this; omega)
      rw [← HN.out] at hcap ⊢
      have HR0 : Hid (Row w6 g (tab (ovP (atP l) u 0 nx) n) ∧ Below w1.heap.size w1 w6) := Lib.hid ⟨by rw [ov_zero, HN.out, tab_atP]; exact hr, hb5⟩
      have HGB := Lib.hid hg
      clear hr hg hb5 HC1 HO1 HO HL3 KG
      go_loopw [11] (fun vi wr => ∃ d : Nat, d ≤ m ∧ vi = .int .i64 ((u : Int) + (d : Int)) ∧ Hid (∀ j, j < d → ¬ 0 < atP l (u + j)) ∧ Hid (Row wr g (tab (ovP (atP l) u d nx) n) ∧ Below w1.heap.size w1 wr)) (fun vi _ => u + m - (intOf vi).toNat)
      case atStart => exact ⟨0, Nat.zero_le _, by go_num, Lib.hid (fun j h => by omega), HR0⟩
      case round =>
        clear HR0
        obtain ⟨d, hd, rfl, HD, HR⟩ := hrel
        have HU : Hid ((u : Int) + (d : Int) = ((u + d : Nat) : Int)) := Lib.hid (by omega)
        by_cases hlt : d < m
        · obtain ⟨b0, o, rfl, c0⟩ := HA.out (u + d) (by have := HMV.out; omega)
          have c0 := bel_cell HR.out.2 c0
          obtain ⟨x, hx⟩ : ∃ x, x = atP l (u + d) := ⟨_, rfl⟩
          rw [← hx] at c0
          obtain ⟨ud, hud⟩ : ∃ ud, ud = u + d := ⟨_, rfl⟩
          have HUD := Lib.hid hud
          rw [HU.out, ← hud]
          rw [← hud] at c0
          have i0 : (ud : Int) ≤ (v : Int) := by have := HMV.out; omega
          have i0' : decide (ud ≤ v) = true := decide_eq_true (by omega)
          have i1 : (ud : Int) < (n : Int) := by omega
          have i2 : (0 : Int) ≤ (ud : Int) := by omega
          have w5 : IntKind.i64.wrap ((ud : Int) + 1) = (ud : Int) + 1 := IntWalk.i64_in _ (by omega)
          by_cases hp : 0 < x
          · have hM := mrd_yes (l := l) (a := u) (b := v) (d := d) (by omega) (by rw [← hx]; exact hp)
            have HE := Lib.hid (HXE3.out.trans (if_pos hM))
            have HF := Lib.hid (lst_err (w := w) (W := wr) (HX.out (by rw [HE.out]; decide)) HE.out (HB.out.trans (HR.out.2.mono HB.out.size)) rfl)
            have q6 : decide (0 < x) = true := decide_eq_true hp
            clear hx hM hp hud
            go_wp2
            refine bodyPost_ret (results_tmp2 rfl _ _ _) rfl ?_
            exact HF.out
          · have HD2 : Hid (∀ j, j < d + 1 → ¬ 0 < atP l (u + j)) := Lib.hid (fun j h => by
              by_cases e : j = d
              · rw [e, ← hx]; exact hp
              · exact HD.out j (by omega))
            have q6 : decide (0 < x) = false := decide_eq_false hp
            have d0 := HR.out.1.cell ud (by rw [tab_len]; omega)
            have d1 := HR.out.1.froz ud (by rw [tab_len]; omega)
            have HN2 : Hid (Row (wr.setCell ⟨g, ud, none⟩ (.int .i64 nx)) g (tab (ovP (atP l) u (d + 1) nx) n) ∧ Below w1.heap.size w1 (wr.setCell ⟨g, ud, none⟩ (.int .i64 nx))) := Lib.hid ⟨by rw [← ov_step, ← hud]; exact HR.out.1.set ud (by rw [tab_len]; omega) nx, HR.out.2.setCell (p := ⟨g, ud, none⟩) HGB.out _⟩
            clear hx hp hud
            go_wp2
            go_roundw
            case rel => exact ⟨d + 1, by omega, by have := HUD.out; go_num, Lib.hid (fun j h => by have := HD2.out j h; omega), HN2⟩
            case measure => have := HUD.out; simp [intOf]; omega
        · have hdm : d = m := by omega
          have hM := mrd_no (l := l) (a := u) (b := v) (fun j hj => HD.out j (by have := HMV.out; omega))
          have HXE4 := Lib.hid (HXE3.out.trans (if_neg (by rw [hM]; exact Bool.false_ne_true)))
          obtain ⟨ud, hud⟩ : ∃ ud, ud = u + d := ⟨_, rfl⟩
          rw [HU.out, ← hud]
          have i0 : ¬ (ud : Int) ≤ (v : Int) := by have := HMV.out; omega
          have i0' : decide (ud ≤ v) = false := decide_eq_false (by omega)
          by_cases hg : gr = 9223372036854775807
          · have HE := Lib.hid (HXE4.out.trans (if_pos hg))
            have HF := Lib.hid (lst_err (w := w) (W := wr) (HX.out (by rw [HE.out]; decide)) HE.out (HB.out.trans (HR.out.2.mono HB.out.size)) rfl)
            have q7 : decide (nx < 0) = true := decide_eq_true (by rw [HNX.out, hg]; decide)
            clear hM hud hdm hlt hg
            go_wp2
            refine bodyPost_ret (results_tmp2 rfl _ _ _) rfl ?_
            exact HF.out
          · have HE := Lib.hid (HXE4.out.trans (if_neg hg))
            have hnx : nx = gr + 1 := by rw [HNX.out]; exact IntWalk.i64_in _ (by have := HG.out; omega)
            have q7 : decide (nx < 0) = false := decide_eq_false (by have := HG.out; omega)
            have HF : Hid (LstR (joinP l (u : Int) (v : Int)) (joinE l (u : Int) (v : Int)) w (.returned (.tuple #[.slice (some ⟨g, 0, none⟩) n cap, .int .i64 0])) wr) := Lib.hid ⟨_, by rw [HE.out], by
              have h := HR.out.1.intR (c := cap)
              rw [tab_len, hdm] at h
              unfold joinP
              rw [if_pos HE.out, Int.toNat_natCast, Int.toNat_natCast, ← HGR.out]
              unfold setP
              rw [HMV.out.2.1, ← HN.out, ← hnx]
              exact h, HB.out.trans (HR.out.2.mono HB.out.size)⟩
            clear hM hud hdm hlt hg hnx
            go_wp2
            refine bodyPost_ret (results_tmp2 rfl _ _ _) rfl ?_
            exact HF.out
  · have HE : Hid (joinE l a b = ce) := Lib.hid (HXE.out.trans (if_pos h0))
    have g0 : (ce != 0) = true := by simpa using h0
    have HH0 := Lib.hid h0
    clear HXE h0 hb1 hce
    go_wp2
    refine bodyPost_ret (results_tmp2 rfl _ _ _) rfl ?_
    exact ⟨_, by rw [HE.out]; rfl, by rw [HX.out (by rw [HE.out]; exact HH0.out)]; exact intR_nil _, HB.out⟩
end Go.Proofs.Ytggbflogndpnoaa
