/- Walk of neighbours. -/
import Derived.Test.YtjokpfeiganigaaDoorPlaJ3
namespace Go.Proofs.YtjokpfeiganigaaDoor
open Go.RowKit Go.Shelf
set_option linter.unusedSimpArgs false
set_option linter.unusedVariables false

abbrev nilS : Value := .slice none 0 0
/-- block b is a map that has at each city c the slice V c, a row of its own that holds what c's distances lead to -/
structure NM (w : World) (lo b n : Nat) (E : List Edg) (V : ByteArray → Value) : Prop where
  map : ∃ g, MapS w b n g ∧ ∀ c, (g c).getD nilS = V c
  own : ∀ c, w.ownsRow lo stopT 2 (V c) (adj E c).length (cellsS (adj E c))
  off : ∀ c, (V c).ownBlock ≠ some b
  apart : ∀ c c' k, (V c).ownBlock = some k → (V c').ownBlock = some k → c = c'
  hlo : lo ≤ w.heap.size
  hlob : lo ≤ b
theorem NM.lt {w : World} {lo b n : Nat} {E : List Edg} {V : ByteArray → Value} (h : NM w lo b n E V) : b < w.heap.size := by
  obtain ⟨g, hm, _⟩ := h.map
  exact hm.lt
theorem NM.more {w w' : World} {lo b n : Nat} {E : List Edg} {V : ByteArray → Value} (h : NM w lo b n E V) (hb : Below w.heap.size w w') : NM w' lo b n E V := by
  obtain ⟨g, hm, hg⟩ := h.map
  exact ⟨⟨g, hm.more hb, hg⟩, fun c => own_more (h.own c) hb, h.off, h.apart, Nat.le_trans h.hlo hb.size, h.hlob⟩
theorem NM.made (w : World) : NM (w.alloc (.map #[] 0)) w.heap.size w.heap.size 0 [] (fun _ => nilS) :=
  { map := ⟨_, MapK.made w _ _ _, fun _ => rfl⟩
    own := fun c => World.ownsRow_nil _ _ _ _
    off := fun c (h : nilS.ownBlock = some _) => absurd h (by simp [Value.ownBlock])
    apart := fun c c' k (h : nilS.ownBlock = some _) => absurd h (by simp [Value.ownBlock])
    hlo := by simp
    hlob := Nat.le_refl _ }
theorem NM.look {w : World} {lo b n : Nat} {E : List Edg} {V : ByteArray → Value} (h : NM w lo b n E V) (c : ByteArray) (hc : c.size ≤ maxLen) :
    (Instr.lookup 114 (.map (some b)) (.string c) false).run Tryd.prog w = .ok (V c) w := by
  obtain ⟨g, hm, hg⟩ := h.map
  rw [lookSt hm c hc, hg]
theorem NM.app {w W w1 : World} {lo b n : Nat} {E : List Edg} {V : ByteArray → Value} (h : NM w lo b n E V) (c : ByteArray) (x : Stp) (hc : c.size ≤ maxLen) (hn : n < 1000) (hW : Below w.heap.size w W) {g cap' : Nat}
    (hown : w1.ownsRow lo stopT 2 (.slice (some ⟨g, 0, none⟩) ((adj E c).length + 1) cap') ((adj E c).length + 1) (cellsS (adj E c) ++ cellsS [x])) (hgrow : W.grownBy w1 (V c).ownBlock) (hloc : (V c).ownBlock = some g ∨ g = W.heap.size) :
    ∃ w2, (Instr.mapUpdate 114 (.map (some b)) (.string c) (.slice (some ⟨g, 0, none⟩) ((adj E c).length + 1) cap')).run Tryd.prog w1 = .ok () w2 ∧
      NM w2 lo b (n + 1) (E ++ [(c, x)]) (fun c' => if c' = c then .slice (some ⟨g, 0, none⟩) ((adj E c).length + 1) cap' else V c') ∧
      (∀ k, k < w.heap.size → k ≠ b → (V c).ownBlock ≠ some k → w1.heap[k]? = w.heap[k]? ∧ w2.heap[k]? = w.heap[k]?) ∧ Below lo w w2 ∧ w.heap.size ≤ w2.heap.size ∧ w.heap.size ≤ w1.heap.size ∧ (∀ B, B < w.heap.size → (V c).ownBlock ≠ some B → g ≠ B) := by
  have hbl := h.lt
  obtain ⟨gf, hm, hg⟩ := h.map
  have hgb : ∀ B, B < w.heap.size → (V c).ownBlock ≠ some B → g ≠ B := by
    intro B hB hne e
    subst e
    rcases hloc with e | e
    · exact hne e
    · have := hW.size; omega
  have hm1 : MapS w1 b n gf := (hm.more hW).grown hgrow (fun e => h.off c e.symm)
  obtain ⟨w2, hrun, hm2, hg2⟩ := hm1.store strK str_inj Tryd.underlying114 (by unfold maxLen; omega) (str_key c hc) (.slice (some ⟨g, 0, none⟩) ((adj E c).length + 1) cap')
  have hkeep : ∀ k, k < w.heap.size → (V c).ownBlock ≠ some k → w1.heap[k]? = w.heap[k]? := fun k hk hne => (hgrow.block k (Nat.lt_of_lt_of_le hk hW.size) (fun e => hne e.symm)).trans (hW.block k hk)
  have hs1 : w.heap.size ≤ w1.heap.size := Nat.le_trans hW.size hgrow.size
  have hgne : g ≠ b := hgb b hbl (h.off c)
  refine ⟨w2, hrun, ⟨⟨_, hm2, fun c' => ?_⟩, fun c' => ?_, fun c' => ?_, fun c' c'' k => ?_, Nat.le_trans h.hlo (Nat.le_trans hs1 hg2.size), h.hlob⟩, fun k hk hkb hne => ⟨hkeep k hk hne, (hg2.block k (Nat.lt_of_lt_of_le hk hs1) (fun e => hkb (Option.some.inj e))).trans (hkeep k hk hne)⟩, ?_, Nat.le_trans hs1 hg2.size, hs1, hgb⟩
  · show ((if c' = c then some _ else gf c')).getD nilS = _
    by_cases e : c' = c
    · rw [if_pos e, if_pos e]; rfl
    · rw [if_neg e, if_neg e]; exact hg c'
  · rw [adj_app, adj_one]
    by_cases e : c' = c
    · subst e
      rw [if_pos rfl, if_pos rfl, cellsS_app, List.length_append]
      exact hown.kept hg2 (.inr (fun e => hgne (Option.some.inj e)))
    · rw [if_neg e, if_neg (fun e' => e e'.symm), List.append_nil]
      have o0 := own_more (h.own c') hW
      have o1 := o0.kept hgrow (by
        cases hv : (V c').ownBlock with
        | none => exact .inl rfl
        | some k =>
          right
          intro e'
          exact e (h.apart c' c k hv e'.symm))
      exact o1.kept hg2 (.inr (h.off c'))
  · by_cases e : c' = c
    · rw [if_pos e]
      intro h'
      exact hgne (Option.some.inj h')
    · rw [if_neg e]; exact h.off c'
  · by_cases e : c' = c
    · by_cases e' : c'' = c
      · intro _ _; rw [e, e']
      · rw [if_pos e, if_neg e']
        intro h1 h2
        have hk : g = k := Option.some.inj h1
        subst hk
        rcases hloc with h3 | h3
        · rw [e]; exact h.apart c c'' g h3 h2
        · have := ((h.own c'').lt g h2).2
          have := hW.size
          omega
    · by_cases e' : c'' = c
      · rw [if_neg e, if_pos e']
        intro h1 h2
        have hk : g = k := Option.some.inj h2
        subst hk
        rcases hloc with h3 | h3
        · rw [e']; exact h.apart c' c g h1 h3
        · have := ((h.own c').lt g h1).2
          have := hW.size
          omega
      · rw [if_neg e, if_neg e']
        exact h.apart c' c'' k
  · have hb1 : Below lo w w1 := ((hW.mono h.hlo).grown hgrow (Nat.le_trans h.hlo hW.size) (fun k hk => ((h.own c).lt k hk).1))
    exact hb1.grown hg2 (Nat.le_trans h.hlo hs1) (fun k hk => by cases hk; exact h.hlob)

end Go.Proofs.YtjokpfeiganigaaDoor
