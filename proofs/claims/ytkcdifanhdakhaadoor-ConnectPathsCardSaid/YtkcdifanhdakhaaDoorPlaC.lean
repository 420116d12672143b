/- Walks of Country, Clone and Find. -/
import Derived.Test.YtkcdifanhdakhaaDoorPlaB
import Derived.Deep.AppendLies
namespace Go.Proofs.YtkcdifanhdakhaaDoor
open Go.RowKit Go.Shelf
set_option linter.unusedSimpArgs false
set_option linter.unusedVariables false

theorem info_shift : (Tryd.prog.info? shiftT).map (fun i => (i.zero, i.size, i.bytes)) = some (some (.agg #[.int .i64 0, .int .i64 0]), 2, 16) := by kernel_rfl
def cellsH (l : Shs) : List Value := l.flatMap fun x => [.int .i64 x.1, .int .i64 x.2]
theorem cellsH_len (l : Shs) : (cellsH l).length = l.length * 2 := by
  induction l with
  | nil => rfl
  | cons x r ih => simp only [cellsH, List.flatMap_cons, List.length_append, List.length_cons, List.length_nil] at ih ⊢; omega
theorem cellsH_at : ∀ (l : Shs) (i : Nat) (h : i < l.length), (cellsH l)[i * 2]? = some (.int .i64 (shA l i)) ∧ (cellsH l)[i * 2 + 1]? = some (.int .i64 (shF l i))
  | [], i, h => by simp at h
  | x :: r, 0, h => by simp [cellsH, shA, shF]
  | x :: r, i + 1, h => by
    have ih := cellsH_at r i (by simpa using h)
    have e : cellsH (x :: r) = .int .i64 x.1 :: .int .i64 x.2 :: cellsH r := by simp [cellsH]
    have e2 : shA (x :: r) (i + 1) = shA r i := by simp [shA]
    have e3 : shF (x :: r) (i + 1) = shF r i := by simp [shF]
    rw [e, e2, e3, show (i + 1) * 2 = i * 2 + 1 + 1 by omega, show i * 2 + 1 + 1 + 1 = (i * 2 + 1) + 1 + 1 by omega]
    simp only [List.getElem?_cons_succ]
    exact ih
theorem ShL.of_own {B : Nat} {w : World} {g cap : Nat} {l : Shs} (h : w.ownsRow B shiftT 2 (.slice (some ⟨g, 0, none⟩) l.length cap) l.length (cellsH l)) (hg : g < w.heap.size) : ShL w (some ⟨g, 0, none⟩) l := by
  refine .inr ⟨g, 0, rfl, hg, fun i hi => ?_⟩
  have hc := cellsH_at l i hi
  have hadd : ∀ j, (⟨g, 0, none⟩ : Addr).add j = ⟨g, 0 + j, none⟩ := fun j => by unfold Addr.add; split <;> simp_all
  have a0 := h.cells (g := g) rfl _ _ hc.1
  have a1 := h.cells (g := g) rfl _ _ hc.2
  rw [hadd] at a0 a1
  exact ⟨a0, by rw [Nat.add_assoc]; exact a1⟩

theorem nil_yes (n c : Nat) (w : World) : (binOp .eql 40 (.slice none n c) (.slice none 0 0)).run Tryd.prog w = .ok (.bool true) w := by kernel_rfl
theorem nil_no (a : Addr) (n c : Nat) (w : World) : (binOp .eql 40 (.slice (some a) n c) (.slice none 0 0)).run Tryd.prog w = .ok (.bool false) w := by kernel_rfl
theorem ShL.news {w : World} {ad : Addr} {l : Shs} (h : ShL w (some ad) l) : ∀ j u, (cellsH l)[j]? = some u → w.cell? (ad.add j) = some u := by
  intro j u hu
  have hj : j < l.length * 2 := by rw [← cellsH_len]; exact (List.getElem?_eq_some_iff.1 hu).1
  rcases h with h | ⟨b, o, e, _, hc⟩
  · rw [h] at hj; simp at hj
  · cases e
    have hadd : ∀ j, (⟨b, o, none⟩ : Addr).add j = ⟨b, o + j, none⟩ := fun j => by unfold Addr.add; split <;> simp_all
    rw [hadd]
    obtain ⟨m, hm⟩ : ∃ m, j = m * 2 ∨ j = m * 2 + 1 := ⟨j / 2, by omega⟩
    rcases hm with rfl | rfl
    · rw [(cellsH_at l m (by omega)).1] at hu
      cases hu
      exact (hc m (by omega)).1
    · rw [(cellsH_at l m (by omega)).2] at hu
      cases hu
      have := (hc m (by omega)).2
      rw [Nat.add_assoc] at this
      exact this
theorem cellsH_one (l : Shs) : ∀ u ∈ cellsH l, u.oneCell' = true := by
  intro u hu
  simp only [cellsH, List.mem_flatMap] at hu
  obtain ⟨x, _, hx⟩ := hu
  simp at hx
  rcases hx with rfl | rfl <;> rfl

set_option maxRecDepth 100000 in
set_option maxHeartbeats 2000000 in
theorem clone_any (A : Option Addr) (c : Nat) (l : Shs) (w : World) (hl : l.length ≤ 300) (hL : ShL w A l) :
    Calls Tryd.prog 71 #[.slice A l.length c] w fun e w' => ∃ A' c', e = .returned (.slice A' l.length c') ∧ ShL w' A' l ∧ Below w.heap.size w w' ∧ (A' = none ∨ ∃ g, A' = some ⟨g, 0, none⟩ ∧ w.heap.size ≤ g) := by
  obtain ⟨i, hi, hz, hz1, hz2⟩ := info_parts info_shift
  cases A with
  | none =>
    have h0 : l = [] := by
      rcases hL with h | ⟨b, o, h, _⟩
      · exact h
      · cases h
    subst h0
    have n1 := nil_yes 0 c w
    go_enter Tryd.func71, Tryd.ntmps71
    go_wp2
    go_ret
    exact ⟨none, 0, rfl, .inl rfl, Below.refl _ _, .inl rfl⟩
  | some ad =>
    have n1 := nil_no ad l.length c w
    have hb0 := bel_alloc w (.cells #[] shiftT)
    by_cases h0 : l = []
    · subst h0
      have n1 := nil_no ad 0 c w
      go_enter Tryd.func71, Tryd.ntmps71
      go_wp2
      go_ret
      exact ⟨some ⟨w.heap.size, 0, none⟩, 0, rfl, .inl rfl, hb0, .inr ⟨_, rfl, Nat.le_refl _⟩⟩
    · have hlp : 0 < l.length := List.length_pos_iff.2 h0
      have HN := Lib.hid ((hL.more hb0).news)
      have HC := Lib.hid (cellsH_len l)
      have HO := Lib.hid (World.ownsRow_made (base := w.heap.size) (e := shiftT) (size := 2) w #[] 0 (Nat.le_refl _) (by unfold maxLen; omega) rfl)
      have hsz : w.heap.size ≤ (w.alloc (.cells #[] shiftT)).heap.size := hb0.size
      clear h0 hL
      go_enter Tryd.func71, Tryd.ntmps71
      go_wp2_with (refine wpList_append_lies _ rfl _ _ 40 rfl w.heap.size shiftT i (.agg #[.int .i64 0, .int .i64 0]) 2 16 Tryd.underlying40 hi hz hz1 hz2 rfl (by omega) _ 0 [] rfl HO.out ad l.length c (cellsH l) rfl HC.out HN.out (cellsH_one l) hlp (by unfold maxLen; omega) (by omega) hsz _ rfl ?_; intro g cap w' hown hgrow _ hgl)
      go_ret
      have e : 0 + l.length = l.length := Nat.zero_add _
      rw [e, List.nil_append] at hown
      exact ⟨some ⟨g, 0, none⟩, cap, by simp, ShL.of_own hown hgl, hb0.grown hgrow hb0.size (fun k hk => by cases hk; exact Nat.le_refl _), .inr ⟨g, rfl, (hown.lt g rfl).1⟩⟩

end Go.Proofs.YtkcdifanhdakhaaDoor
