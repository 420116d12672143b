/- Walks of normals and Without; equal lists of periods. -/
import Derived.Test.YtnfdmdhpbaifiaaDoorPerK
import Derived.Laws.StructEq
namespace Go.Proofs.YtnfdmdhpbaifiaaDoor
open Go.RowKit
set_option linter.unusedSimpArgs false
set_option linter.unusedVariables false

theorem normsQ_step (l : List Per) (k : Nat) (h : k < l.length) : normsQ (l.take (k + 1)) = if daysQ l[k] = [] then normsQ (l.take k) else normsQ (l.take k) ++ [accQ (daysQ l[k])] := by
  rw [List.take_succ_eq_append_getElem h]
  unfold normsQ
  rw [List.map_append, List.filter_append, List.map_append]
  by_cases h0 : daysQ l[k] = []
  · rw [if_pos h0]; simp [h0]
  · rw [if_neg h0]; simp [h0]
set_option maxRecDepth 100000 in
set_option maxHeartbeats 4000000 in
theorem normals_any (v : Value) (l : List Per) (w : World) (hv : PerL w v l) (hl : l.length ≤ 1000) :
    Calls Tryd.prog 25 #[v] w fun e w' => ∃ u, e = .returned u ∧ PerL w' u (normsQ l) ∧ Below w.heap.size w w' := by
  obtain ⟨A, c, rfl, hc⟩ := hv
  have hn : (l.length : Int) ≤ 1000 := by omega
  go_enter Tryd.func25, Tryd.ntmps25
  go_wp2
  go_loopw [3, 10] (fun vo vi wr => ∃ k : Nat, k ≤ l.length ∧ vi = .int .i64 k ∧ POwn 23 w.heap.size wr vo (normsQ (l.take k)) ∧ Below w.heap.size w wr) (fun _ vi _ => l.length - (intOf vi).toNat)
  case atStart => exact ⟨0, Nat.zero_le _, rfl, POwn.nil (Nat.le_refl _), Below.refl _ _⟩
  case round =>
    obtain ⟨k, hk, rfl, hO, hb⟩ := hrel
    by_cases hlt : k < l.length
    · obtain ⟨g, o, rfl, hgl, hcc⟩ : ∃ b o, A = some ⟨b, o, none⟩ ∧ b < w.heap.size ∧ ∀ i (h : i < l.length), w.cell? ⟨b, o + i * 3, none⟩ = some (.int .i64 l[i].1) ∧ w.cell? ⟨b, o + i * 3 + 1, none⟩ = some (.int .i64 l[i].2.1) ∧ w.cell? ⟨b, o + i * 3 + 2, none⟩ = some (.int .i64 l[i].2.2) := by
        rcases hc with h | h
        · rw [h] at hlt; simp at hlt
        · exact h
      obtain ⟨g0, g1, g2⟩ := hcc k hlt
      replace g0 := (hb.cell (p := ⟨g, o + k * 3, none⟩) hgl).trans g0
      replace g1 := (hb.cell (p := ⟨g, o + k * 3 + 1, none⟩) hgl).trans g1
      replace g2 := (hb.cell (p := ⟨g, o + k * 3 + 2, none⟩) hgl).trans g2
      have i1 : (k : Int) < (l.length : Int) := by omega
      have HF := Lib.hid (normsQ_step l k hlt)
      have hsh : (normsQ (l.take k)).length ≤ 1000 := by
        have := norms_len (l.take k)
        rw [List.length_take] at this
        omega
      have CN := Lib.hid (fun W => normal_any l[k] W)
      clear hcc hc
      by_cases he : daysQ l[k] = []
      · rw [if_pos he] at HF
        rw [show ofQ (daysQ l[k]) = ((0, 0, 0), false) by rw [he]; rfl] at CN
        clear he
        generalize l[k] = p at *
        go_wp2_with (go_at_call 10; refine (CN.out _).mono ?_; rintro e w6 ⟨rfl, hb6⟩)
        go_roundw
        case rel => exact ⟨k + 1, by omega, by go_num, by rw [HF.out]; exact ((hO.alloc _).more hb6).alloc _, ((hb.alloc hb.size _).trans (hb6.mono (Nat.le_trans hb.size (by simp)))).alloc (Nat.le_trans hb.size (Nat.le_trans (by simp) hb6.size)) _⟩
        case measure => simp [intOf]; omega
      · rw [if_neg he] at HF
        rw [show ofQ (daysQ l[k]) = (accQ (daysQ l[k]), true) by rw [ofQ]; simp [he]] at CN
        clear he
        generalize accQ (daysQ l[k]) = q at *
        generalize l[k] = p at *
        go_wp2_with (first | (go_at_call 10; refine (CN.out _).mono ?_; rintro e w6 ⟨rfl, hb6⟩; have hO6 := (hO.alloc _).more hb6) | (refine wpList_papp rfl _ _ rfl _ (normsQ (l.take k)) rfl ((hO6.alloc _).alloc _) _ q 1 rfl (heap_second _ _ _) (by omega) ?_; intro v' w7 hO7 hb7))
        go_roundw
        case rel =>
          refine ⟨k + 1, by omega, by go_num, by rw [HF.out]; exact hO7, ?_⟩
          have h6 := (hb.alloc hb.size (.cells #[.int .i64 p.1, .int .i64 p.2.1, .int .i64 p.2.2] perT)).trans (hb6.mono (Nat.le_trans hb.size (by simp)))
          exact ((h6.alloc h6.size _).alloc (Nat.le_trans h6.size (by simp)) _).trans hb7
        case measure => simp [intOf]; omega
    · rw [List.take_of_length_le (by omega)] at hO
      go_wp2
      go_ret
      exact ⟨_, rfl, .of_own hO.own, hb⟩

/-! ### equal lists of periods -/
theorem take_stepP (a b : List Per) (k : Nat) (h1 : k < a.length) (h2 : k < b.length) (h : a.take k = b.take k) (he : a[k] = b[k]) : a.take (k + 1) = b.take (k + 1) := by
  rw [List.take_succ_eq_append_getElem h1, List.take_succ_eq_append_getElem h2, h, he]
theorem not_sameP (a b : List Per) (k : Nat) (h1 : k < a.length) (h2 : k < b.length) (he : a[k] ≠ b[k]) : a ≠ b := by
  rintro rfl; exact he rfl
def sameP (a b : List Per) : Bool := decide (a = b)
/-! ### Without -/
theorem with_no {a b : Per} (h : okQ a = false) : withQ a b = [] := by simp [withQ, h]
theorem with_one {a b : Per} (h : okQ a = true) (h2 : okQ b = false) : withQ a b = normsQ [a] := by simp [withQ, h, h2]
theorem with_three {a b : Per} (h : okQ a = true) (h2 : okQ b = true) : withQ a b = normsQ [btw a a.1 (b.1 - 1), durQ a b, btw a (b.2.1 + 1) a.2.1] := by simp [withQ, h, h2]
theorem PerL.lit1 (w : World) (a : Per) : PerL (w.alloc (.cells #[.int .i64 a.1, .int .i64 a.2.1, .int .i64 a.2.2] 23)) (.slice (some ⟨w.heap.size, 0, none⟩) 1 1) [a] := by
  have hm := heap_alloc_new w (.cells #[.int .i64 a.1, .int .i64 a.2.1, .int .i64 a.2.2] 23)
  refine ⟨_, 1, rfl, .inr ⟨w.heap.size, 0, rfl, by simp, fun i hi => ?_⟩⟩
  match i, hi with
  | 0, _ => exact ⟨cell_of_row _ _ 0 _ _ (0, 0) hm, cell_of_row _ _ 1 _ _ (0, 0) hm, cell_of_row _ _ 2 _ _ (0, 0) hm⟩
theorem PerL.lit3 (w : World) (a b c : Per) : PerL (w.alloc (.cells #[.int .i64 a.1, .int .i64 a.2.1, .int .i64 a.2.2, .int .i64 b.1, .int .i64 b.2.1, .int .i64 b.2.2, .int .i64 c.1, .int .i64 c.2.1, .int .i64 c.2.2] 23)) (.slice (some ⟨w.heap.size, 0, none⟩) 3 3) [a, b, c] := by
  have hm := heap_alloc_new w (.cells #[.int .i64 a.1, .int .i64 a.2.1, .int .i64 a.2.2, .int .i64 b.1, .int .i64 b.2.1, .int .i64 b.2.2, .int .i64 c.1, .int .i64 c.2.1, .int .i64 c.2.2] 23)
  refine ⟨_, 3, rfl, .inr ⟨w.heap.size, 0, rfl, by simp, fun i hi => ?_⟩⟩
  match i, hi with
  | 0, _ => exact ⟨cell_of_row _ _ 0 _ _ (0, 0) hm, cell_of_row _ _ 1 _ _ (0, 0) hm, cell_of_row _ _ 2 _ _ (0, 0) hm⟩
  | 1, _ => exact ⟨cell_of_row _ _ 3 _ _ (0, 0) hm, cell_of_row _ _ 4 _ _ (0, 0) hm, cell_of_row _ _ 5 _ _ (0, 0) hm⟩
  | 2, _ => exact ⟨cell_of_row _ _ 6 _ _ (0, 0) hm, cell_of_row _ _ 7 _ _ (0, 0) hm, cell_of_row _ _ 8 _ _ (0, 0) hm⟩

end Go.Proofs.YtnfdmdhpbaifiaaDoor
