/- Groups. -/
import Derived.Test.YtggbflogndpnoaaMarI
namespace Go.Proofs.Ytggbflogndpnoaa
open Go.RowKit Go.Shelf Go.Maps
set_option linter.unusedSimpArgs false
set_option linter.unusedVariables false
attribute [local go_sem] Oper.semAt_some
attribute [local simp] wide_fn

theorem run_rapp {α : Type} {e : TypeId} {sz B : Nat} {enc : α → List Value} {P : Program} {t : TypeId} {v : Value} {l : List α} (T : RT P t e sz enc) {w0 w : World} (h0 : ROwn e sz enc B w0 v l) (hW : Below w0.heap.size w0 w)
    (b : Nat) (new : α) (c : Nat) {cs : Array Value} (hcs : cs = (enc new).toArray) (hb : w.heap[b]? = some (.cells cs e (0, 0))) (hlim : l.length ≤ 100000000) (ty : TypeId) :
    ∃ g cap w', (Builtin.append_ #[t, t] ty #[v, .slice (some ⟨b, 0, none⟩) 1 c]).run P w = .ok (.slice (some ⟨g, 0, none⟩) (l.length + 1) cap) w' ∧ ROwn e sz enc B w' (.slice (some ⟨g, 0, none⟩) (l.length + 1) cap) (l ++ [new]) ∧ Chg w0 w' v (.slice (some ⟨g, 0, none⟩) (l.length + 1) cap) := by
  obtain ⟨z, bytes, hinfo, hzc, hby⟩ := T.info
  obtain ⟨i, hi, hz, hz1, hz2⟩ := info_parts hinfo
  subst hcs
  have h1 : (l.length + 1) * bytes ≤ (l.length + 1) * 1000 := Nat.mul_le_mul_left _ hby
  obtain ⟨g, cap, w', hr, hown, hgrow, hloc, _⟩ := run_append_lies (P := P) w t ty B e i z sz bytes T.ht hi hz hz1 hz2 hzc T.pos v l.length (cellsR enc l) (h0.more hW).own ⟨b, 0, none⟩ 1 c (cellsR enc [new])
    (by rw [cellsR_one, T.len]; omega) (by rw [cellsR_one]; exact World.news_of_block hb) (by rw [cellsR_one]; exact T.one new) (by omega) (by unfold maxLen; omega) (by omega) (h0.more hW).base w.heap.size rfl
  obtain ⟨r1, r2⟩ := h0.app T hW (m := [new]) rfl hown hgrow hloc
  exact ⟨g, cap, w', hr, r1, r2⟩

/-- a group in memory -/
structure Gp where
  b : Nat
  c : Nat
  l : List Int
abbrev ggT : TypeId := 24
def encGp (x : Gp) : List Value := [.slice (some ⟨x.b, 0, none⟩) x.l.length x.c]
theorem rowGp : RT Try.prog ggT insT 1 encGp where
  ht := Try.underlying24
  info := ⟨.slice none 0 0, 24, by kernel_rfl, rfl, by decide⟩
  len _ := rfl
  pos := by decide
  one x u hu := by simp [encGp] at hu; subst hu; rfl
/-- groups that lie in memory -/
structure GpL (B : Nat) (W : World) (v : Value) (gs : List Gp) : Prop where
  own : ROwn insT 1 encGp B W v gs
  row : ∀ x ∈ gs, Row W x.b x.l ∧ B ≤ x.b ∧ v.ownBlock ≠ some x.b
theorem own_cells {α : Type} {e : TypeId} {sz B : Nat} {enc : α → List Value} {W : World} {v : Value} {l : List α} (h : ROwn e sz enc B W v l) {k : Nat} (hk : v.ownBlock = some k) : ∃ o, W.heap[k]? = some o ∧ o.isCells = true := by
  rcases h.own.2 with ⟨rfl, _⟩ | ⟨g, cap, cur, rfl, _, hgb, _⟩
  · simp [Value.ownBlock] at hk
  · obtain rfl : g = k := by simpa [Value.ownBlock] using hk
    exact ⟨_, hgb, rfl⟩
theorem Row.but {w w' : World} {X : Nat → Prop} {b : Nat} {l : List Int} (h : Row w b l) (hb : But w w' X) (hx : ¬ X b) : Row w' b l := by
  have e : w'.heap[b]? = w.heap[b]? := hb.block b h.lt hx
  refine ⟨fun j hj => (World.cell?_of_block e).trans (h.cell j hj), fun j hj => ?_, Nat.lt_of_lt_of_le h.lt hb.size⟩
  have := h.froz j hj
  unfold World.frozen? at this ⊢
  simp only [e]
  exact this
/-- one more group -/
theorem GpL.app {B : Nat} {W w3 w5 : World} {v v' : Value} {gs : List Gp} (h : GpL B W v gs) {x : Gp} (hb : Below W.heap.size W w3) (hr : Row w3 x.b x.l) (hx : W.heap.size ≤ x.b) (hO : ROwn insT 1 encGp B w5 v' (gs ++ [x]))
    {w4 : World} (h4 : Below w3.heap.size w3 w4) (hC : Chg w4 w5 v v') : GpL B w5 v' (gs ++ [x]) := by
  have hb4 : Below W.heap.size W w4 := hb.trans (h4.mono hb.size)
  refine ⟨hO, fun y hy => ?_⟩
  rw [List.mem_append, List.mem_singleton] at hy
  have key : ∀ y : Gp, Row w4 y.b y.l → v.ownBlock ≠ some y.b → Row w5 y.b y.l ∧ v'.ownBlock ≠ some y.b := fun y h1 h2 => ⟨h1.but hC.but h2, fun e => by
    rcases hC.own _ e with e2 | e2
    · exact h2 e2
    · have := h1.lt; omega⟩
  rcases hy with hy | rfl
  · obtain ⟨a1, a2, a3⟩ := h.row y hy
    obtain ⟨k1, k2⟩ := key y (a1.more hb4) a3
    exact ⟨k1, a2, k2⟩
  · obtain ⟨k1, k2⟩ := key y (hr.more h4) (fun e => by have := (h.own.low e).2; omega)
    exact ⟨k1, Nat.le_trans h.own.base hx, k2⟩
theorem GpL.other {B : Nat} {W : World} {v : Value} {gs : List Gp} (h : GpL B W v gs) {b : Nat} (hb : b < B) (j : Nat) (u : Value) : GpL B (W.setCell ⟨b, j, none⟩ u) v gs := by
  have hB : But W (W.setCell ⟨b, j, none⟩ u) (fun k => k = b) := But.setCell _ _ _ _
  refine ⟨?_, fun x hx => ?_⟩
  · exact h.own.grown hB.grownBy (.inl (fun e => by
      have := (h.own.low e.symm).1
      omega))
  · obtain ⟨a1, a2, a3⟩ := h.row x hx
    exact ⟨a1.but hB (by omega), a2, a3⟩
theorem GpL.kept {B : Nat} {W W' : World} {v : Value} {gs : List Gp} {row : Option Nat} (h : GpL B W v gs) (hg : W.grownBy W' row) (hr : ∀ r, row = some r → ∃ o : Obj, W.heap[r]? = some o ∧ o.isCells = false) : GpL B W' v gs := by
  refine ⟨h.own.grown hg ?_, fun x hx => ?_⟩
  · cases row with
    | none =>
      rcases hv : v.ownBlock with _ | g
      · exact .inr rfl
      · exact .inl (by simp)
    | some r =>
      obtain ⟨o, h1, h2⟩ := hr r rfl
      refine .inl (fun e => ?_)
      obtain ⟨o', h3, h4⟩ := own_cells h.own e.symm
      rw [h1] at h3; cases h3
      rw [h2] at h4; cases h4
  · obtain ⟨a1, a2, a3⟩ := h.row x hx
    exact ⟨a1.kept hg hr, a2, a3⟩
/-- what a call tells that returns groups and an error -/
def GrpR (gs : List (List Int)) (er : Int) (w : World) (e : Ending) (w' : World) : Prop :=
  ∃ (v : Value) (xs : List Gp), e = .returned (.tuple #[v, .int .i64 er]) ∧ xs.map Gp.l = gs ∧ GpL w.heap.size w' v xs ∧ Below w.heap.size w w'
def grpP (l : List Int) : List (List Int) := if chkP l = 0 then gP l l.length else []
theorem gpL_nil {B : Nat} {W : World} (h : B ≤ W.heap.size) : GpL B W (.slice none 0 0) [] := ⟨ROwn.nil h, fun x hx => (nomatch hx)⟩
theorem GpL.base {B B' : Nat} {W : World} {v : Value} {gs : List Gp} (h : GpL B W v gs) (hB : B' ≤ B) : GpL B' W v gs := by
  refine ⟨⟨?_, Nat.le_trans hB h.own.base⟩, fun x hx => ?_⟩
  · obtain ⟨h1, h2⟩ := h.own.own
    refine ⟨h1, ?_⟩
    rcases h2 with h2 | ⟨g, cap, cur, a1, a2, a3⟩
    · exact .inl h2
    · exact .inr ⟨g, cap, cur, a1, Nat.le_trans hB a2, a3⟩
  · obtain ⟨a1, a2, a3⟩ := h.row x hx
    exact ⟨a1, Nat.le_trans hB a2, a3⟩
/-- what the rounds keep -/
structure GI (l : List Int) (w : World) (B : Nat) (pre : List (Rn l)) (W : World) : Prop where
  ex : ∃ (v : Value) (gs : List Gp), Boxed W B ggT v ∧ GpL (B + 2) W v gs ∧ gs.map Gp.l = (rvs pre).map fun x => rgP x.1 x.2
  bel : Below w.heap.size w W
  sz : B + 2 ≤ W.heap.size
theorem gi_own (l : List Int) (w : World) (B B' : Nat) (hB : B + 2 ≤ B') (hw : w.heap.size ≤ B) : OwnFrom B' (GI l w B) := by
  intro s X Y row hs hg hr
  have hb : ∀ k, k < B' → k < X.heap.size → Y.heap[k]? = X.heap[k]? := fun k h h2 => hg.block k h2 (fun e => by obtain ⟨h3, _⟩ := hr k e.symm; omega)
  obtain ⟨v, gs, h1, h2, h3⟩ := hs.ex
  exact ⟨⟨v, gs, (hb _ (by omega) h1.lt).trans h1, h2.kept hg (fun r e => (hr r e).2), h3⟩, ownFrom_below (β := Unit) (Nat.le_refl _) (by omega) () X Y row hs.bel hg hr, Nat.le_trans hs.sz hg.size⟩
/-- a round -/
theorem gi_step {l : List Int} {w : World} {B B0 : Nat} {pre : List (Rn l)} {W w3 w5 : World} {v v' : Value} {gs : List Gp} (x : Rn l) {g c : Nat} (hw : w.heap.size ≤ B) (hB0 : B0 = B + 2)
    (h1 : Boxed W B ggT v) (h2 : GpL (B + 2) W v gs) (h3 : gs.map Gp.l = (rvs pre).map fun x => rgP x.1 x.2) (hbel : Below w.heap.size w W) (hsz : B + 2 ≤ W.heap.size)
    (hb4 : Below W.heap.size W w3) (hg : W.heap.size ≤ g) (hr : Row w3 g (rgP x.1.1 x.1.2))
    (hO : ROwn insT 1 encGp (B + 2) w5 v' (gs ++ [⟨g, c, rgP x.1.1 x.1.2⟩])) (hC : Chg w3 w5 v v') :
    Boxed w5 B ggT v ∧ Below w.heap.size w w5 ∧ KeepsFrom B0 W (w5.setCell ⟨B, 0, none⟩ v') ∧ KpB w.heap.size (B + 1) W (w5.setCell ⟨B, 0, none⟩ v') ∧ GI l w B (pre ++ [x]) (w5.setCell ⟨B, 0, none⟩ v') := by
  have hG := h2.app (x := ⟨g, c, rgP x.1.1 x.1.2⟩) hb4 hr hg hO (Below.refl _ _) hC
  have hvb : ∀ k, v.ownBlock = some k → B + 2 ≤ k ∧ k < W.heap.size := fun k e => h2.own.low e
  have hblk : ∀ k, k < W.heap.size → v.ownBlock ≠ some k → w5.heap[k]? = W.heap[k]? := fun k a b => (hC.but.block k (Nat.lt_of_lt_of_le a hb4.size) b).trans (hb4.block k a)
  have hs5 : W.heap.size ≤ w5.heap.size := Nat.le_trans hb4.size hC.but.size
  have hB5 : Below (B + 2) W w5 := (hb4.mono hsz).trans (hC.but.below (by have := hb4.size; omega) (fun k hk e => by have := hvb k e; omega))
  have hbx : Boxed w5 B ggT v := (hblk B (by omega) (fun e => by have := (hvb _ e).1; omega)).trans h1
  have hsz5 : B + 2 ≤ w5.heap.size := Nat.le_trans hsz hs5
  have hB6 : Below w.heap.size W w5 := hB5.mono (show w.heap.size ≤ B + 2 by omega)
  refine ⟨hbx, hbel.trans hB6, ⟨by rw [World.size_setCell]; exact hs5, fun k o hk ho hc => ?_⟩, ⟨?_, ?_⟩, ⟨⟨_, _, hbx.set _, hG.other (by omega) _ _, ?_⟩, ?_, by rw [World.size_setCell]; exact hsz5⟩⟩
  · have hk2 := (Array.getElem?_eq_some_iff.1 ho).1
    refine (Below.heap_setCell _ _ _ k (by simp; omega)).trans ((hblk k hk2 (fun e => ?_)).trans ho)
    obtain ⟨o', a1, a2⟩ := own_cells h2.own e
    rw [ho] at a1; cases a1
    rw [hc] at a2; cases a2
  · exact hB6.setCell (p := ⟨B, 0, none⟩) hw _
  · exact (Below.heap_setCell _ _ _ _ (by simp)).trans (hblk (B + 1) (by omega) (fun e => by have := hvb _ e; omega))
  · rw [List.map_append, h3, rvs_snoc, List.map_append]; rfl
  · exact hbel.trans (hB6.setCell (p := ⟨B, 0, none⟩) hw _)
theorem own_slice {B e sz n : Nat} {w : World} {v : Value} {xs : List Value} (h : w.ownsRow B e sz v n xs) : ∃ A n k, v = .slice A n k := by
  rcases h.2 with ⟨rfl, _⟩ | ⟨g, cap, cur, rfl, _⟩
  · exact ⟨_, _, _, rfl⟩
  · exact ⟨_, _, _, rfl⟩
end Go.Proofs.Ytggbflogndpnoaa
