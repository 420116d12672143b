/- The specification's groups as they grow: plain and in memory. -/
import Derived.Test.YtggbflogndpnoaaMarJ
import Derived.Test.YtggbflogndpnoaaMarS
namespace Go.Proofs.Ytggbflogndpnoaa
open Go.RowKit Go.Shelf Go.Maps
set_option linter.unusedSimpArgs false
set_option linter.unusedVariables false

section
variable {α : Type} {enc : α → List Value} {e : TypeId} {sz B : Nat} {w : World} {l : List α}
theorem cellsR_set (h : ∀ x, (enc x).length = sz) : ∀ (l : List α) (k j : Nat) (x x' : α) (u : Value), l[k]? = some x → enc x' = (enc x).set j u → j < sz → cellsR enc (l.set k x') = (cellsR enc l).set (k * sz + j) u
  | [], k, j, x, x', u, hk, _, _ => by simp at hk
  | y :: r, 0, j, x, x', u, hk, hx, hj => by
    simp at hk
    subst hk
    simp only [List.set_cons_zero, cellsR, List.flatMap_cons, Nat.zero_mul, Nat.zero_add]
    rw [hx, List.set_append_left _ _ (by rw [h]; exact hj)]
  | y :: r, k + 1, j, x, x', u, hk, hx, hj => by
    have ih := cellsR_set h r k j x x' u (by simpa using hk) hx hj
    have e : (k + 1) * sz + j = (enc y).length + (k * sz + j) := by rw [h, Nat.add_mul]; omega
    simp only [cellsR, List.set_cons_succ, List.flatMap_cons] at ih ⊢
    rw [e, ih, List.set_append_right _ _ (by omega), Nat.add_sub_cancel_left]
theorem ROwn.set {g n c k j : Nat} {x x' : α} {u : Value} (h : ROwn e sz enc B w (.slice (some ⟨g, 0, none⟩) n c) l) (hlen : ∀ x, (enc x).length = sz) (hk : l[k]? = some x) (hj : j < sz) (hx : enc x' = (enc x).set j u) :
    ROwn e sz enc B (w.setCell ⟨g, k * sz + j, none⟩ u) (.slice (some ⟨g, 0, none⟩) n c) (l.set k x') := by
  obtain ⟨⟨h1, h2⟩, hb⟩ := h
  refine ⟨⟨cellsR_len hlen _, ?_⟩, Nat.le_trans hb (by simp [World.setCell])⟩
  rcases h2 with ⟨h2, _⟩ | ⟨g', cap, cur, e1, h3, h4, h5, h6, h7, h8⟩
  · cases h2
  · cases e1
    refine .inr ⟨g, c, cur.setIfInBounds (k * sz + j) u, by simp, h3, heap_setCell_same w g _ cur e u h4, by simpa using h5, h6, by simpa using h7, ?_⟩
    rw [List.length_set, Array.toList_setIfInBounds, List.take_set, h8, cellsR_set hlen l k j x x' u hk hx hj]
end
theorem rown_but {α : Type} {e : TypeId} {sz B : Nat} {enc : α → List Value} {w w' : World} {v : Value} {l : List α} {X : Nat → Prop} (h : ROwn e sz enc B w v l) (hb : But w w' X) (hne : ∀ k, v.ownBlock = some k → ¬ X k) : ROwn e sz enc B w' v l := by
  obtain ⟨⟨h1, h2⟩, h3⟩ := h
  refine ⟨⟨h1, ?_⟩, Nat.le_trans h3 hb.size⟩
  rcases h2 with h2 | ⟨g, cap, cur, rfl, a1, a2, a3⟩
  · exact .inl h2
  · exact .inr ⟨g, cap, cur, rfl, a1, (hb.block g (Array.getElem?_eq_some_iff.1 a2).1 (hne g rfl)).trans a2, a3⟩
abbrev slG (x : Gp) : Value := .slice (some ⟨x.b, 0, none⟩) x.l.length x.c
/-- groups that may still grow -/
structure GpO (B : Nat) (W : World) (v : Value) (gs : List Gp) : Prop where
  own : ROwn insT 1 encGp B W v gs
  row : ∀ x ∈ gs, ROwn 3 1 encI B W (slG x) x.l ∧ v.ownBlock ≠ some x.b
  nd : (gs.map Gp.b).Nodup
theorem gpO_nil {B : Nat} {W : World} (h : B ≤ W.heap.size) : GpO B W (.slice none 0 0) [] := ⟨ROwn.nil h, fun x hx => (nomatch hx), List.nodup_nil⟩
theorem GpO.more {B : Nat} {W W' : World} {v : Value} {gs : List Gp} (h : GpO B W v gs) (hb : Below W.heap.size W W') : GpO B W' v gs :=
  ⟨h.own.more hb, fun x hx => ⟨(h.row x hx).1.more hb, (h.row x hx).2⟩, h.nd⟩
theorem rown_lt {α : Type} {e : TypeId} {sz B : Nat} {enc : α → List Value} {w : World} {v : Value} {l : List α} (h : ROwn e sz enc B w v l) {k : Nat} (hk : v.ownBlock = some k) : k < w.heap.size := (h.low hk).2
/-- a new group behind them -/
theorem GpO.app {B : Nat} {W W4 w5 : World} {v v' : Value} {gs : List Gp} (h : GpO B W v gs) (hb : Below W.heap.size W W4) {x : Gp} (hx : ROwn 3 1 encI B W4 (slG x) x.l) (hxb : W.heap.size ≤ x.b) (hO : ROwn insT 1 encGp B w5 v' (gs ++ [x])) (hC : Chg W4 w5 v v') : GpO B w5 v' (gs ++ [x]) := by
  have hvlt : ∀ k, v.ownBlock = some k → k < W.heap.size := fun k e => rown_lt h.own e
  have hxl : x.b < W4.heap.size := rown_lt hx rfl
  have key : ∀ y : Gp, ROwn 3 1 encI B W4 (slG y) y.l → v.ownBlock ≠ some y.b → ROwn 3 1 encI B w5 (slG y) y.l ∧ v'.ownBlock ≠ some y.b := fun y h1 h2 =>
    ⟨rown_but h1 hC.but (fun k e => by cases e; exact h2), fun e => by
      rcases hC.own _ e with e2 | e2
      · exact h2 e2
      · have := rown_lt h1 (k := y.b) rfl; omega⟩
  refine ⟨hO, fun y hy => ?_, ?_⟩
  · rw [List.mem_append, List.mem_singleton] at hy
    rcases hy with hy | rfl
    · exact key y ((h.row y hy).1.more hb) (h.row y hy).2
    · exact key y hx (fun e => by have := hvlt _ e; omega)
  · rw [List.map_append, List.nodup_append]
    refine ⟨h.nd, by simp, fun a ha b hb2 => ?_⟩
    obtain ⟨y, hy, rfl⟩ := List.mem_map.1 ha
    rw [List.map_cons, List.map_nil, List.mem_singleton] at hb2
    have := rown_lt (h.row y hy).1 (k := y.b) rfl
    omega
/-- the last group grows -/
theorem GpO.join {B g n c : Nat} {W w6 : World} {r : List Gp} {x x' : Gp} (h : GpO B W (.slice (some ⟨g, 0, none⟩) n c) (r ++ [x])) (hO : ROwn 3 1 encI B w6 (slG x') x'.l) (hC : Chg W w6 (slG x) (slG x')) :
    GpO B (w6.setCell ⟨g, r.length, none⟩ (slG x')) (.slice (some ⟨g, 0, none⟩) n c) (r ++ [x']) ∧ But W (w6.setCell ⟨g, r.length, none⟩ (slG x')) (fun k => k = g ∨ k = x.b) := by
  obtain ⟨hx1, hx2⟩ := h.row x (by simp)
  have hgx : g ≠ x.b := fun e => hx2 (by rw [e]; rfl)
  have hglt : g < W.heap.size := rown_lt h.own rfl
  have hnd := h.nd
  rw [List.map_append, List.nodup_append] at hnd
  have hx'g : x'.b ≠ g := by
    rcases hC.own x'.b rfl with e | e
    · have : x.b = x'.b := by simpa [Value.ownBlock] using e
      omega
    · omega
  have hb1 : But W w6 (fun k => k = x.b) := ⟨hC.but.os, hC.but.tape, hC.but.output, hC.but.size, fun k hk hn => hC.but.block k hk (fun e => hn (Option.some.inj e).symm)⟩
  have hown6 : ROwn insT 1 encGp B w6 (.slice (some ⟨g, 0, none⟩) n c) (r ++ [x]) := rown_but h.own hb1 (fun k e => by cases e; exact hgx)
  refine ⟨⟨?_, fun y hy => ?_, ?_⟩, ?_⟩
  · have h1 := ROwn.set (k := r.length) (j := 0) (x := x) (x' := x') (u := slG x') hown6 rowGp.len (by simp) (by omega) (by simp [encGp])
    rw [Nat.mul_one, Nat.add_zero] at h1
    have e : (r ++ [x]).set r.length x' = r ++ [x'] := by simp
    rw [e] at h1
    exact h1
  · rw [List.mem_append, List.mem_singleton] at hy
    have hset := But.setCell w6 g r.length (slG x')
    rcases hy with hy | rfl
    · obtain ⟨a1, a2⟩ := h.row y (by simp [hy])
      have hyx : y.b ≠ x.b := hnd.2.2 y.b (List.mem_map.2 ⟨y, hy, rfl⟩) x.b (by simp)
      refine ⟨rown_but (rown_but a1 hb1 (fun k e => by cases e; exact hyx)) hset (fun k e => by cases e; exact fun e2 => a2 (by have e3 : y.b = g := e2; rw [e3]; rfl)), a2⟩
    · exact ⟨rown_but hO hset (fun k e => by cases e; exact hx'g), fun e => by cases e; exact hx'g rfl⟩
  · rw [List.map_append, List.nodup_append]
    refine ⟨hnd.1, by simp, fun a ha b hb2 => ?_⟩
    rw [List.map_cons, List.map_nil, List.mem_singleton] at hb2
    subst hb2
    obtain ⟨y, hy, rfl⟩ := List.mem_map.1 ha
    rcases hC.own x'.b rfl with e | e
    · have e2 : x.b = x'.b := by simpa [Value.ownBlock] using e
      rw [← e2]
      exact hnd.2.2 y.b (List.mem_map.2 ⟨y, hy, rfl⟩) x.b (by simp)
    · have := rown_lt (h.row y (by simp [hy])).1 (k := y.b) rfl
      omega
  · have hset := But.setCell w6 g r.length (slG x')
    exact ⟨hset.os.trans hb1.os, hset.tape.trans hb1.tape, hset.output.trans hb1.output, Nat.le_trans hb1.size hset.size, fun k hk hn => (hset.block k (Nat.lt_of_lt_of_le hk hb1.size) (fun e => hn (.inl e))).trans (hb1.block k hk (fun e => hn (.inr e)))⟩
end Go.Proofs.Ytggbflogndpnoaa
