/- Part, Join. -/
import Derived.Test.YtggbflogndpnoaaMarH
namespace Go.Proofs.Ytggbflogndpnoaa
open Go.RowKit Go.Shelf Go.Maps
set_option linter.unusedSimpArgs false
set_option linter.unusedVariables false

theorem setP_len (l : List Int) (f t : Nat) (x : Int) : (setP l f t x).length = l.length := by simp [setP, tab]
theorem in_zero {l : List Int} {i : Int} (h : inE l i = 0) : chkP l = 0 ∧ 0 ≤ i ∧ i < (l.length : Int) := by
  unfold inE at h
  split at h
  · exact absurd h (by assumption)
  · rename_i h1
    split at h
    · cases h
    · exact ⟨Decidable.byContradiction h1, by omega, by omega⟩
theorem find_zero {l : List Int} {i f t er : Int} (he : inE l i = 0) (hr : if chkP l ≠ 0 then er = chkP l else if i < 0 ∨ (l.length : Int) ≤ i then er = 2 else er = 0 ∧ ∃ (a b : Nat) (pre : List (Nat × Nat)), f = (a : Int) ∧ t = (b : Int) ∧ Ch l pre a ∧ IsEnd l a b ∧ (a : Int) ≤ i ∧ i < (b : Int)) :
    er = 0 ∧ ∃ (a b : Nat) (pre : List (Nat × Nat)), f = (a : Int) ∧ t = (b : Int) ∧ Ch l pre a ∧ IsEnd l a b ∧ (a : Int) ≤ i ∧ i < (b : Int) := by
  obtain ⟨h1, h2, h3⟩ := in_zero he
  rw [if_neg (by rw [h1]; simp), if_neg (by omega)] at hr
  exact hr
theorem find_err {l : List Int} {i f t er : Int} (he : ¬ inE l i = 0) (hr : if chkP l ≠ 0 then er = chkP l else if i < 0 ∨ (l.length : Int) ≤ i then er = 2 else er = 0 ∧ ∃ (a b : Nat) (pre : List (Nat × Nat)), f = (a : Int) ∧ t = (b : Int) ∧ Ch l pre a ∧ IsEnd l a b ∧ (a : Int) ≤ i ∧ i < (b : Int)) : er = inE l i := by
  unfold inE at he ⊢
  split at hr
  · rename_i h1; rw [if_pos h1]; exact hr
  · rename_i h1
    rw [if_neg h1] at he ⊢
    split at hr
    · rename_i h2; rw [if_pos h2]; exact hr
    · rename_i h2; rw [if_neg h2] at he; exact absurd rfl he
set_option maxRecDepth 100000 in
set_option maxHeartbeats 4000000 in
theorem part_any (A : Option Addr) (c : Nat) (l : List Int) (i : Int) (w : World) (hl : l.length ≤ 1000) (hi : I64L l) (hL : IntR w (.slice A l.length c) l) :
    Calls Try.prog 15 #[.slice A l.length c, .int .i64 i] w (LstR (partP l i) (inE l i) w) := by
  have KF := Lib.hid (find_any A c l i w hl hi hL)
  have HL := Lib.hid hl
  have HI := Lib.hid hL
  clear hL hi hl
  go_enter Try.func15, Try.ntmps15
  go_upto_region 2 with (go_at_call 24; refine KF.out.mono ?_; rintro e w2 ⟨f, t, er, rfl, hb2, hr⟩)
  have HB := Lib.hid hb2
  clear KF
  by_cases he : inE l i = 0
  · obtain ⟨rfl, a, b, pre, rfl, rfl, h1, h2, h3, h4⟩ := find_zero he hr
    have KS := Lib.hid (set_any A c l a b 0 w2 HL.out (HI.out.more hb2) h2.lt h2.le)
    have HW : Hid (partP l i = setP l a b 0) := Lib.hid (by unfold partP; rw [if_pos he]; exact prt_set (in_zero he).1 h1 h2 (by omega) (by omega))
    have HE := Lib.hid he
    have HLt := Lib.hid (setP_len l a b 0)
    clear hr h1 h2 h3 h4 he
    go_wp2_with (go_at_call 25; refine KS.out.mono ?_; rintro e w3 ⟨g, cap, rfl, hg, hrow, hb3⟩)
    refine bodyPost_ret (results_tmp2 rfl _ _ _) rfl ?_
    refine ⟨_, by rw [HE.out]; rfl, ?_, HB.out.trans (hb3.mono HB.out.size)⟩
    have h := hrow.intR (c := cap)
    rw [HLt.out] at h
    rw [HW.out]
    exact h
  · have he2 := find_err he hr
    have g0 : (er != 0) = true := by rw [he2]; simpa using he
    have HW : Hid (partP l i = []) := Lib.hid (by unfold partP; rw [if_neg he])
    have HE := Lib.hid he2
    clear hr he he2
    go_wp2
    refine bodyPost_ret (results_tmp2 rfl _ _ _) rfl ?_
    exact ⟨_, by rw [← HE.out]; rfl, by rw [HW.out]; exact intR_nil _, HB.out⟩

theorem lst_err {xs : List Int} {er k : Int} {w W : World} {e : Ending} (hx : xs = []) (he : er = k) (h : Below w.heap.size w W) (hr : e = .returned (.tuple #[.slice none 0 0, .int .i64 k])) : LstR xs er w e W := by
  subst hx he
  exact ⟨.slice none 0 0, hr, intR_nil _, h⟩
/-- a married segment among those from a to b -/
def mrdP (l : List Int) (a b : Nat) : Bool := (List.range (b + 1 - a)).any fun d => decide (0 < atP l (a + d))
def joinE (l : List Int) (a b : Int) : Int :=
  if chkP l ≠ 0 then chkP l else if a < 0 ∨ b ≤ a ∨ (l.length : Int) ≤ b then 2 else if mrdP l a.toNat b.toNat = true then 18 else if grP l = 9223372036854775807 then 2 else 0
def joinP (l : List Int) (a b : Int) : List Int := if joinE l a b = 0 then setP l a.toNat (b.toNat + 1) (grP l + 1) else []
theorem mrd_yes {l : List Int} {a b d : Nat} (h : a + d ≤ b) (hx : 0 < atP l (a + d)) : mrdP l a b = true := by
  unfold mrdP
  rw [List.any_eq_true]
  exact ⟨d, List.mem_range.2 (by omega), decide_eq_true hx⟩
theorem mrd_no {l : List Int} {a b : Nat} (h : ∀ d, a + d ≤ b → ¬ 0 < atP l (a + d)) : mrdP l a b = false := by
  unfold mrdP
  rw [List.any_eq_false]
  intro d hd
  rw [List.mem_range] at hd
  simpa using h d (by omega)
set_option maxRecDepth 100000 in
set_option maxHeartbeats 4000000 in
theorem join_any (A : Option Addr) (c : Nat) (l : List Int) (a b : Int) (w : World) (hl : l.length ≤ 1000) (hcap : l.length ≤ c) (hi : I64L l) (ha : -9223372036854775808 ≤ b ∧ b ≤ 9223372036854775807) (hL : IntR w (.slice A l.length c) l) :
    Calls Try.prog 19 #[.slice A l.length c, .int .i64 a, .int .i64 b] w (LstR (joinP l a b) (joinE l a b) w) := by
  have KC := Lib.hid (check_any A c l w hl hi hL)
  have HL := Lib.hid hL
  obtain ⟨n, hn⟩ : ∃ n, n = l.length := ⟨_, rfl⟩
  have HN := Lib.hid hn
  have HI := Lib.hid hi
  have HLl := Lib.hid hl
  rw [← hn] at KC hl hcap
  rw [← hn]
  have HX : Hid (joinE l a b ≠ 0 → joinP l a b = []) := Lib.hid (fun h => by unfold joinP; rw [if_neg h])
  have HXE : Hid (joinE l a b = if chkP l ≠ 0 then chkP l else if a < 0 ∨ b ≤ a ∨ (n : Int) ≤ b then 2 else if mrdP l a.toNat b.toNat = true then 18 else if grP l = 9223372036854775807 then 2 else 0) := Lib.hid (by unfold joinE; rw [hn])
  clear hL hn hi
  go_enter Try.func19, Try.ntmps19
  go_upto_region 2 with (go_at_call 10; refine KC.out.mono ?_; rintro e w1 ⟨rfl, hb1⟩)
  obtain ⟨ce, hce⟩ : ∃ ce, ce = chkP l := ⟨_, rfl⟩
  rw [← hce] at HXE ⊢
  have HB := Lib.hid hb1
  by_cases h0 : ce = 0
  · subst h0
    have HXE2 := Lib.hid (HXE.out.trans (if_neg (by simp)))
    clear HXE
    by_cases g : a < 0 ∨ b ≤ a ∨ (n : Int) ≤ b
    · have HE := Lib.hid (HXE2.out.trans (if_pos g))
      have HF : Hid (∀ W e, Below w.heap.size w W → e = .returned (.tuple #[.slice none 0 0, .int .i64 2]) → LstR (joinP l a b) (joinE l a b) w e W) := Lib.hid (fun W e h he => lst_err (HX.out (by rw [HE.out]; decide)) HE.out h he)
      by_cases g1 : a < 0
      · have q1 : decide (a < 0) = true := decide_eq_true g1
        clear g hb1 hce
        go_wp2
        refine bodyPost_ret (results_tmp2 rfl _ _ _) rfl ?_
        exact HF.out _ _ HB.out rfl
      · have q1 : decide (a < 0) = false := decide_eq_false g1
        by_cases g2 : b ≤ a
        · have q2 : decide (b ≤ a) = true := decide_eq_true g2
          clear g hb1 hce g1
          go_wp2
          refine bodyPost_ret (results_tmp2 rfl _ _ _) rfl ?_
          exact HF.out _ _ HB.out rfl
        · have q2 : decide (b ≤ a) = false := decide_eq_false g2
          have q3 : decide ((n : Int) ≤ b) = true := decide_eq_true (by omega)
          clear g hb1 hce g1 g2
          go_wp2
          refine bodyPost_ret (results_tmp2 rfl _ _ _) rfl ?_
          exact HF.out _ _ HB.out rfl
    · have q1 : decide (a < 0) = false := decide_eq_false (by omega)
      have q2 : decide (b ≤ a) = false := decide_eq_false (by omega)
      have q3 : decide ((n : Int) ≤ b) = false := decide_eq_false (by omega)
      have HXE3 := Lib.hid (HXE2.out.trans (if_neg g))
      clear HXE2
      obtain ⟨u, rfl⟩ : ∃ u : Nat, a = (u : Int) := ⟨a.toNat, by omega⟩
      obtain ⟨v, rfl⟩ : ∃ v : Nat, b = (v : Int) := ⟨b.toNat, by omega⟩
      rw [Int.toNat_natCast, Int.toNat_natCast] at HXE3
      obtain ⟨m, hm⟩ : ∃ m, m = v + 1 - u := ⟨_, rfl⟩
      have hm1 : 0 < m := by omega
      have q4 : decide (v ≤ u) = false := decide_eq_false (by omega)
      have q5 : decide (n ≤ v) = false := decide_eq_false (by omega)
      have hvn : v < n := by omega
      obtain ⟨b0, o, rfl, hcA⟩ := int_at HL.out (k := u) (atP_get (by have := HN.out; omega))
      have HA : Hid (∀ d, u + d ≤ v → w1.cell? ⟨b0, o + u + d, none⟩ = some (.int .i64 (atP l (u + d)))) := Lib.hid (fun d hd => by
        obtain ⟨b', o', e, hc⟩ := int_at HL.out (k := u + d) (atP_get (by have := HN.out; omega))
        cases e
        rw [Nat.add_assoc]
        exact bel_cell hb1 hc)
      have j0 : (0 : Int) ≤ (u : Int) := by omega
      have j1 : (u : Int) ≤ (v : Int) + 1 := by omega
      have j2 : (v : Int) + 1 ≤ (c : Int) := by omega
      have j3 : (0 : Int) ≤ (v : Int) + 1 := by omega
      have w0 : IntKind.i64.wrap ((v : Int) + 1) = (v : Int) + 1 := IntWalk.i64_in _ (by omega)
      have e1 : ((v : Int) + 1).toNat - u = m := by omega
      have e2 : v + 1 - u = m := hm.symm
      have KG := Lib.hid (greatest_any (some ⟨b0, o, none⟩) c l w1 HLl.out (HL.out.more hb1))
      rw [← HN.out] at KG
      have KS : Hid (∀ x : Int, Calls Try.prog 25 #[.slice (some ⟨b0, o, none⟩) n c, .int .i64 (u : Int), .int .i64 ((v : Int) + 1), .int .i64 x] w1 fun e w' => ∃ g cap, e = .returned (.slice (some ⟨g, 0, none⟩) n cap) ∧ w1.heap.size ≤ g ∧ Row w' g (setP l u (v + 1) x) ∧ Below w1.heap.size w1 w') := Lib.hid (fun x => by
        have h := set_any (some ⟨b0, o, none⟩) c l u (v + 1) x w1 HLl.out (HL.out.more hb1) (by omega) (by have := HN.out; omega)
        rw [← HN.out] at h
        exact h)
      clear g hb1 hce hcA KC hm
      go_wp2
      go_loopw [36] (fun vi wr => ∃ d : Nat, d ≤ m ∧ vi = .int .i64 (d : Int) ∧ Hid (∀ j, j < d → ¬ 0 < atP l (u + j)) ∧ w1 = wr) (fun vi _ => m - (intOf vi).toNat)
      case atStart => exact ⟨0, Nat.zero_le _, rfl, Lib.hid (fun j h => by omega), rfl⟩
      case round =>
        obtain ⟨d, hd, rfl, HD, rfl⟩ := hrel
        by_cases hlt : d < m
        · have c0 := HA.out d (by omega)
          obtain ⟨x, hx⟩ : ∃ x, x = atP l (u + d) := ⟨_, rfl⟩
          rw [← hx] at c0
          have i1 : (d : Int) < (m : Int) := by omega
          have i2 : (0 : Int) ≤ (d : Int) := by omega
          by_cases hp : 0 < x
          · have hM := mrd_yes (l := l) (a := u) (b := v) (d := d) (by omega) (by rw [← hx]; exact hp)
            have HE := Lib.hid (HXE3.out.trans (if_pos hM))
            have HF := Lib.hid (lst_err (w := w) (W := w1) (HX.out (by rw [HE.out]; decide)) HE.out HB.out rfl)
            have q4 : decide (0 < x) = true := decide_eq_true hp
            clear hx hM
            go_wp2
            refine bodyPost_ret (results_tmp2 rfl _ _ _) rfl ?_
            exact HF.out
          · have HD2 : Hid (∀ j, j < d + 1 → ¬ 0 < atP l (u + j)) := Lib.hid (fun j h => by
              by_cases e : j = d
              · rw [e, ← hx]; exact hp
              · exact HD.out j (by omega))
            have q4 : decide (0 < x) = false := decide_eq_false hp
            clear hx hp
            go_wp2
            go_roundw
            case rel => exact ⟨d + 1, by omega, by go_num, HD2, trivial⟩
            case measure => simp [intOf]; omega
        · have hM := mrd_no (l := l) (a := u) (b := v) (fun j hj => HD.out j (by omega))
          have HXE4 := Lib.hid (HXE3.out.trans (if_neg (by rw [hM]; exact Bool.false_ne_true)))
          have i1 : ¬ (d : Int) < (m : Int) := by omega
          have HG : Hid (0 ≤ grP l ∧ grP l ≤ 9223372036854775807) := Lib.hid ⟨grF_ge l _, grF_le HI.out _ (Nat.le_refl _)⟩
          obtain ⟨gr, hgr⟩ : ∃ gr, gr = grP l := ⟨_, rfl⟩
          rw [← hgr] at HXE4 HG KG
          have HGR := Lib.hid hgr
          clear hM HD hgr
          by_cases hg : gr = 9223372036854775807
          · have HE := Lib.hid (HXE4.out.trans (if_pos hg))
            have HF := Lib.hid (lst_err (w := w) (W := w1) (HX.out (by rw [HE.out]; decide)) HE.out HB.out rfl)
            have w2 : IntKind.i64.wrap (gr + 1) = -9223372036854775808 := by rw [hg]; decide
            have q5 : decide ((-9223372036854775808 : Int) < 0) = true := by decide
            clear hg
            go_wp2_with (go_at_call 27; refine KG.out.mono ?_; rintro e w2 ⟨rfl, rfl⟩)
            refine bodyPost_ret (results_tmp2 rfl _ _ _) rfl ?_
            exact HF.out
          · have HE := Lib.hid (HXE4.out.trans (if_neg hg))
            have HW : Hid (joinP l (u : Int) (v : Int) = setP l u (v + 1) (gr + 1)) := Lib.hid (by unfold joinP; rw [if_pos HE.out, Int.toNat_natCast, Int.toNat_natCast, HGR.out])
            have w2 : IntKind.i64.wrap (gr + 1) = gr + 1 := IntWalk.i64_in _ (by have := HG.out; omega)
            have q5 : decide (gr + 1 < 0) = false := decide_eq_false (by have := HG.out; omega)
            have HLt : Hid (n = (setP l u (v + 1) (gr + 1)).length) := Lib.hid (by rw [setP_len]; exact HN.out)
            clear hg
            go_wp2_with (first
              | (go_at_call 27; refine KG.out.mono ?_; rintro e w2 ⟨rfl, rfl⟩)
              | (go_at_call 25; refine (KS.out _).mono ?_; rintro e w3 ⟨g, cap, rfl, hg, hrow, hb3⟩))
            refine bodyPost_ret (results_tmp2 rfl _ _ _) rfl ?_
            refine ⟨_, by rw [HE.out]; rfl, ?_, HB.out.trans (hb3.mono HB.out.size)⟩
            have h := hrow.intR (c := cap)
            rw [← HLt.out] at h
            rw [HW.out]
            exact h
  · have HE : Hid (joinE l a b = ce) := Lib.hid (HXE.out.trans (if_pos h0))
    have g0 : (ce != 0) = true := by simpa using h0
    have HH0 := Lib.hid h0
    clear HXE h0 hb1 hce
    go_wp2
    refine bodyPost_ret (results_tmp2 rfl _ _ _) rfl ?_
    exact ⟨_, by rw [HE.out]; rfl, by rw [HX.out (by rw [HE.out]; exact HH0.out)]; exact intR_nil _, HB.out⟩
end Go.Proofs.Ytggbflogndpnoaa
