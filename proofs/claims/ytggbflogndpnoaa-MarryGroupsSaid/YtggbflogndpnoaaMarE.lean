/- fill, set, greatest. -/
import Derived.Test.YtggbflogndpnoaaMarD
namespace Go.Proofs.Ytggbflogndpnoaa
open Go.RowKit Go.Shelf Go.Maps
set_option linter.unusedSimpArgs false
set_option linter.unusedVariables false

theorem ROwn.rowC {B : Nat} {W : World} {v : Value} {s : List Int} (h : ROwn 3 1 encI B W v s) (hne : s ≠ []) : ∃ g cap, v = .slice (some ⟨g, 0, none⟩) s.length cap ∧ s.length ≤ cap ∧ B ≤ g ∧ Row W g s := by
  obtain ⟨g, cap, e, hB, hr⟩ := h.row hne
  rcases h.own.2 with ⟨e2, _⟩ | ⟨g2, cap2, cur, e2, _, _, hnc, _⟩
  · rw [e] at e2; cases e2
  · rw [e] at e2
    cases e2
    exact ⟨g, cap, e, hnc, hB, hr⟩
theorem tab_set (f : Nat → Int) (n k : Nat) (x : Int) : (tab f n).set k x = tab (fun j => if j = k then x else f j) n := by
  apply List.ext_getElem
  · simp [tab]
  · intro i h1 h2
    have h1' : i < n := by simpa [tab] using h1
    rw [List.getElem_set]
    simp only [tab, List.getElem_map, List.getElem_range]
    by_cases e : k = i
    · subst e; simp
    · rw [if_neg e, if_neg (fun h => e h.symm)]
theorem tab_ext {f g : Nat → Int} {n : Nat} (h : ∀ j, j < n → f j = g j) : tab f n = tab g n := by
  unfold tab
  exact List.map_congr_left (fun j hj => h j (List.mem_range.1 hj))
/-- the part from o on, m long, is x -/
def ovP (f : Nat → Int) (o m : Nat) (x : Int) (j : Nat) : Int := if o ≤ j ∧ j < o + m then x else f j
theorem ov_zero (f : Nat → Int) (o : Nat) (x : Int) : ovP f o 0 x = f := by
  funext j
  unfold ovP
  rw [if_neg (by omega)]
theorem ov_step (f : Nat → Int) (o k n : Nat) (x : Int) : (tab (ovP f o k x) n).set (o + k) x = tab (ovP f o (k + 1) x) n := by
  rw [tab_set]
  refine tab_ext fun j _ => ?_
  unfold ovP
  by_cases e : j = o + k
  · rw [if_pos e, if_pos (by omega)]
  · rw [if_neg e]
    by_cases h : o ≤ j ∧ j < o + k
    · rw [if_pos h, if_pos (by omega)]
    · rw [if_neg h, if_neg (by omega)]
theorem but_tr {w w' w'' : World} {g : Nat} (h : But w w' (fun k => k = g)) (h' : But w' w'' (fun k => k = g)) : But w w'' (fun k => k = g) := h.trans h' (fun k _ h => h)

set_option maxRecDepth 100000 in
set_option maxHeartbeats 4000000 in
theorem fill_any (g o m cc n : Nat) (f : Nat → Int) (x : Int) (w : World) (hR : Row w g (tab f n)) (hom : o + m ≤ n) (hn : n ≤ 1000) :
    Calls Try.prog 26 #[.slice (some ⟨g, o, none⟩) m cc, .int .i64 x] w fun e w' => (∃ v, e = .returned v) ∧ Row w' g (tab (ovP f o m x) n) ∧ But w w' (fun k => k = g) := by
  have HR := Lib.hid hR
  clear hR
  go_enter Try.func26, Try.ntmps26
  go_wp2
  go_loopw [7] (fun vi wr => ∃ k : Nat, k ≤ m ∧ vi = .int .i64 (k : Int) ∧ Hid (Row wr g (tab (ovP f o k x) n) ∧ But w wr (fun k => k = g))) (fun vi _ => m - (intOf vi).toNat)
  case atStart => exact ⟨0, Nat.zero_le _, rfl, Lib.hid ⟨by rw [ov_zero]; exact HR.out, But.refl _ _⟩⟩
  case round =>
    obtain ⟨k, hk, rfl, HK⟩ := hrel
    by_cases hlt : k < m
    · have i1 : (k : Int) < (m : Int) := by omega
      have i2 : (0 : Int) ≤ (k : Int) := by omega
      have d1 := HK.out.1.froz (o + k) (by rw [tab_len]; omega)
      have d0 := HK.out.1.cell (o + k) (by rw [tab_len]; omega)
      have HN : Hid (Row (wr.setCell ⟨g, o + k, none⟩ (.int .i64 x)) g (tab (ovP f o (k + 1) x) n) ∧ But w (wr.setCell ⟨g, o + k, none⟩ (.int .i64 x)) (fun k => k = g)) := Lib.hid ⟨by rw [← ov_step]; exact HK.out.1.set (o + k) (by rw [tab_len]; omega) x, but_tr HK.out.2 (But.setCell _ _ _ _)⟩
      go_wp2
      go_roundw
      case rel => exact ⟨k + 1, by omega, by go_num, HN⟩
      case measure => simp [intOf]; omega
    · have i1 : ¬ (k : Int) < (m : Int) := by omega
      have e : k = m := by omega
      subst e
      go_wp2
      exact bodyPost_end (results_none rfl _ _ _) rfl ⟨⟨_, rfl⟩, HK.out⟩

/-- set's list -/
def setP (l : List Int) (f t : Nat) (x : Int) : List Int := tab (ovP (atP l) f (t - f) x) l.length
set_option maxRecDepth 100000 in
set_option maxHeartbeats 4000000 in
theorem set_any (A : Option Addr) (c : Nat) (l : List Int) (f t : Nat) (x : Int) (w : World) (hl : l.length ≤ 1000) (hL : IntR w (.slice A l.length c) l) (hft : f < t) (ht : t ≤ l.length) :
    Calls Try.prog 25 #[.slice A l.length c, .int .i64 (f : Int), .int .i64 (t : Int), .int .i64 x] w fun e w' => ∃ g cap, e = .returned (.slice (some ⟨g, 0, none⟩) l.length cap) ∧ w.heap.size ≤ g ∧ Row w' g (setP l f t x) ∧ Below w.heap.size w w' := by
  have HL := Lib.hid hL
  have HO := Lib.hid (ROwn.nil (e := 3) (sz := 1) (enc := encI) (B := w.heap.size) (w := w) (Nat.le_refl _))
  obtain ⟨n, hn⟩ : ∃ n, n = l.length := ⟨_, rfl⟩
  have HN := Lib.hid hn
  have HLn : Hid (IntR w (.slice A n c) l) := Lib.hid (by rw [hn]; exact hL)
  rw [← hn] at hl ht ⊢
  clear hL hn HL
  obtain ⟨m, hm⟩ : ∃ m, m = t - f := ⟨_, rfl⟩
  have htf : (t : Int) = (f : Int) + (m : Int) := by omega
  have i0 : (0 : Int) ≤ (f : Int) := by omega
  have i1 : (f : Int) ≤ (t : Int) := by omega
  have i2 : (0 : Int) ≤ (t : Int) := by omega
  go_enter Try.func25, Try.ntmps25
  go_upto_region 2 with (at_builtin; refine wpList_rappl rowI rfl _ _ rfl HO.out rfl l _ rfl HLn.out (by simp; have := HN.out; omega) ?_; intro v' w' hO1 hC1)
  obtain ⟨g, cap, rfl, hcap, hg, hr⟩ := ROwn.rowC (s := l) (by simpa using hO1) (by intro e; have := HN.out; rw [e] at this; simp at this; omega)
  have hbw := hC1.below HO.out
  have i3 : (t : Int) ≤ (cap : Int) := by have := HN.out; omega
  have hr0 : Row w' g (tab (atP l) n) := by rw [HN.out, tab_atP]; exact hr
  rw [← HN.out] at hcap ⊢
  have KF := Lib.hid (fill_any g f m (cap - f) n (atP l) x w' hr0 (by omega) hl)
  have HS : Hid (setP l f t x = tab (ovP (atP l) f m x) n) := Lib.hid (by unfold setP; rw [← hm, ← HN.out])
  have HB := Lib.hid hbw
  have HG := Lib.hid hg
  have e1 : t - f = m := hm.symm
  clear hr hr0 hO1 hC1 hbw hm HO
  go_wp2_with (go_at_call 26; refine KF.out.mono ?_; rintro e w2 ⟨⟨v, rfl⟩, hr2, hb2⟩)
  go_ret
  exact ⟨g, cap, rfl, HG.out, by rw [HS.out]; exact hr2, HB.out.trans (hb2.below HB.out.size (fun k hk e => by have := HG.out; omega))⟩
end Go.Proofs.Ytggbflogndpnoaa
