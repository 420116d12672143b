/- The inventory in memory: who owns which block, legs, the map of legs, the map of configurations. -/
import Derived.Test.YtkghpapbifijcaaGreatDoorStkP
import Derived.Maps.Own
namespace Go.Proofs.YtkghpapbifijcaaGreatDoor
open Go.RowKit Go.Shelf Go.Maps Go.MapKept
open Go.WideElems (Fit rd rg pl rd_key rd_val rg_of rd_mk)
open Go.ChangeMaps (setBlock putKey notKey heap_setBlock_same heap_setBlock_other)
open Go.WideMaps (keyOf_string_mk)
set_option linter.unusedSimpArgs false
set_option linter.unusedVariables false

abbrev lidT : TypeId := 43
abbrev legT : TypeId := 93
abbrev stkT : TypeId := 71
def encD (x : Lid) : List Value := [.string x.car, .int .i64 x.num, .int .i64 x.day, .string x.frm]
abbrev aggD (x : Lid) : Value := .agg #[.string x.car, .int .i64 x.num, .int .i64 x.day, .string x.frm]
abbrev LidL (w : World) (v : Value) (l : List Lid) : Prop := RowL 4 encD w v l
structure OkD (x : Lid) : Prop where
  car : x.car.size ≤ maxLen
  n0 : -9223372036854775808 ≤ x.num
  n1 : x.num ≤ 9223372036854775807
  d0 : -9223372036854775808 ≤ x.day
  d1 : x.day ≤ 9223372036854775807
  frm : x.frm.size ≤ maxLen
theorem aggD_inj (a b : Lid) (h : aggD a = aggD b) : a = b := by
  obtain ⟨a1, a2, a3, a4⟩ := a
  obtain ⟨b1, b2, b3, b4⟩ := b
  simp only [Value.agg.injEq, Array.mk.injEq, List.cons.injEq, Value.string.injEq, Value.int.injEq, true_and, and_true] at h
  obtain ⟨rfl, rfl, rfl, rfl⟩ := h
  rfl
theorem rowD : RT Tryz.prog 48 lidT 4 encD where
  ht := Tryz.underlying48
  info := ⟨.agg #[.string noB, .int .i64 0, .int .i64 0, .string noB], 48, by kernel_rfl, rfl, by omega⟩
  len x := rfl
  one x u hu := by simp [encD] at hu; rcases hu with rfl | rfl | rfl | rfl <;> rfl
  pos := by omega

/-- whose block it is: nobody's, the map's, a leg's, a leg's list of rows, a leg's row -/
inductive Tag where
  | none
  | map
  | obj
  | leg (i : Lid)
  | sl (i : Lid)
  | row (i : Lid) (k : Nat)
abbrev Own' : Type := Nat → Tag
/-- the blocks that a call may change -/
def MutB (o : Own') (k : Nat) : Prop := match o k with
  | .map => True
  | .leg _ => True
  | .row _ _ => True
  | _ => False
/-- the rows of a leg -/
def SoldAt (w : World) (o : Own') (i : Lid) (v : Value) (so : List (List Int)) : Prop :=
  ∃ b c, v = .slice (some ⟨b, 0, Option.none⟩) so.length c ∧ o b = .sl i ∧ b < w.heap.size ∧
    ∀ (k : Nat) (s : List Int), so[k]? = some s → ∃ r c', w.cell? ⟨b, k, Option.none⟩ = some (.slice (some ⟨r, 0, Option.none⟩) s.length c') ∧ o r = .row i k ∧ Row w r s
structure LegAt (w : World) (o : Own') (i : Lid) (a : Nat) (q : Lg) : Prop where
  tag : o a = .leg i
  lt : a < w.heap.size
  c0 : w.cell? ⟨a, 0, Option.none⟩ = some (.string q.f.equip)
  c1 : w.cell? ⟨a, 1, Option.none⟩ = some (.slice q.f.A q.f.l.length q.f.c)
  c2 : ∃ v, w.cell? ⟨a, 2, Option.none⟩ = some v ∧ SoldAt w o i v q.so
  c3 : w.cell? ⟨a, 3, Option.none⟩ = some (.bool q.cl)
  froz : ∀ j, w.frozen? ⟨a, j, Option.none⟩ = false
/-- block b is the map of the legs -/
def LegM (w : World) (o : Own') (b n : Nat) (g : Stk) : Prop :=
  ∃ h : Lid → Option Value, (∃ es clock, w.heap[b]? = some (.map es clock) ∧ Fit Tryz.prog lidT Rh es clock ∧ es.size ≤ n ∧ (∀ x ∈ es.toList, ∃ c, x.key = aggD c ∧ OkD c) ∧ ∀ c v, h c = some v ↔ ∃ x ∈ es.toList, x.key = aggD c ∧ x.val = v) ∧
    ∀ i, match g i with
      | some q => ∃ a, h i = some (.pointer (some ⟨a, 0, Option.none⟩)) ∧ LegAt w o i a q
      | Option.none => h i = Option.none
/-- what has changed: of the blocks that were there, those that X names -/
theorem Below.but {w w' : World} (X : Nat → Prop) (h : Below w.heap.size w w') : But w w' X := But.of_below h
theorem but_cell {w w' : World} {X : Nat → Prop} (h : But w w' X) {a : Addr} {x : Value} (hc : w.cell? a = some x) (hn : ¬ X a.block) : w'.cell? a = some x :=
  (World.cell?_of_block (h.block a.block (World.block_lt_of_cell? _ _ hc) hn)).trans hc
theorem but_froz {w w' : World} {X : Nat → Prop} (h : But w w' X) {a : Addr} (hlt : a.block < w.heap.size) (hn : ¬ X a.block) : w'.frozen? a = w.frozen? a := by
  unfold World.frozen?
  rw [h.block _ hlt hn]
theorem Row.but {w w' : World} {X : Nat → Prop} {b : Nat} {l : List Int} (h : Row w b l) (hb : But w w' X) (hn : ¬ X b) : Row w' b l :=
  ⟨fun k hk => but_cell hb (h.cell k hk) hn, fun k hk => (but_froz (a := ⟨b, k, Option.none⟩) hb h.lt hn).trans (h.froz k hk), Nat.lt_of_lt_of_le h.lt hb.size⟩
theorem Row.at {w : World} {b : Nat} {l : List Int} (h : Row w b l) {k : Nat} {x : Int} (hk : l[k]? = some x) : w.cell? ⟨b, k, Option.none⟩ = some (.int .i64 x) := by
  obtain ⟨h1, rfl⟩ := List.getElem?_eq_some_iff.1 hk
  exact h.cell k h1
theorem SoldAt.but {w w' : World} {X : Nat → Prop} {o : Own'} {i : Lid} {v : Value} {so : List (List Int)} (h : SoldAt w o i v so) (hb : But w w' X) (hx : ∀ k, X k → (∀ j, o k ≠ .row i j) ∧ o k ≠ .sl i) : SoldAt w' o i v so := by
  obtain ⟨b, c, e, h1, h2, h3⟩ := h
  refine ⟨b, c, e, h1, Nat.lt_of_lt_of_le h2 hb.size, fun k s hk => ?_⟩
  obtain ⟨r, c', g1, g2, g3⟩ := h3 k s hk
  exact ⟨r, c', but_cell hb g1 (fun hX => (hx _ hX).2 h1), g2, g3.but hb (fun hX => (hx _ hX).1 _ g2)⟩
theorem LegAt.but {w w' : World} {X : Nat → Prop} {o : Own'} {i : Lid} {a : Nat} {q : Lg} (h : LegAt w o i a q) (hb : But w w' X) (hx : ∀ k, X k → (∀ j, o k ≠ .row i j) ∧ o k ≠ .sl i ∧ o k ≠ .leg i) : LegAt w' o i a q := by
  obtain ⟨v, h2, h3⟩ := h.c2
  have hn : ¬ X a := fun hX => (hx a hX).2.2 h.tag
  exact ⟨h.tag, Nat.lt_of_lt_of_le h.lt hb.size, but_cell hb h.c0 hn, but_cell hb h.c1 hn, ⟨v, but_cell hb h2 hn, h3.but hb (fun k hk => ⟨(hx k hk).1, (hx k hk).2.1⟩)⟩, but_cell hb h.c3 hn, fun j => (but_froz (a := ⟨a, j, Option.none⟩) hb h.lt hn).trans (h.froz j)⟩
/-- other owners, as long as this leg's blocks keep theirs -/
theorem SoldAt.own {w : World} {o o' : Own'} {i : Lid} {v : Value} {so : List (List Int)} (h : SoldAt w o i v so) (hx : ∀ k, k < w.heap.size → (o k = .sl i ∨ ∃ j, o k = .row i j) → o' k = o k) : SoldAt w o' i v so := by
  obtain ⟨b, c, e, h1, h2, h3⟩ := h
  refine ⟨b, c, e, (hx b h2 (.inl h1)).trans h1, h2, fun k s hk => ?_⟩
  obtain ⟨r, c', g1, g2, g3⟩ := h3 k s hk
  exact ⟨r, c', g1, (hx r g3.lt (.inr ⟨k, g2⟩)).trans g2, g3⟩
theorem LegAt.own {w : World} {o o' : Own'} {i : Lid} {a : Nat} {q : Lg} (h : LegAt w o i a q) (hx : ∀ k, k < w.heap.size → (o k = .leg i ∨ o k = .sl i ∨ ∃ j, o k = .row i j) → o' k = o k) : LegAt w o' i a q := by
  obtain ⟨v, h2, h3⟩ := h.c2
  exact ⟨(hx a h.lt (.inl h.tag)).trans h.tag, h.lt, h.c0, h.c1, ⟨v, h2, h3.own (fun k hk hh => hx k hk (.inr hh))⟩, h.c3, h.froz⟩

/-! ### the configurations: they lie in blocks that nobody changes -/
def RowIn (R : Nat → Prop) {α : Type} (sz : Nat) (enc : α → List Value) (w : World) (A : Option Addr) (l : List α) : Prop :=
  l = [] ∨ ∃ b o, A = some ⟨b, o, Option.none⟩ ∧ R b ∧ b < w.heap.size ∧ ∀ i x j u, l[i]? = some x → (enc x)[j]? = some u → w.cell? ⟨b, o + i * sz + j, Option.none⟩ = some u
theorem RowIn.rowL {R : Nat → Prop} {α : Type} {sz : Nat} {enc : α → List Value} {w : World} {A : Option Addr} {l : List α} (h : RowIn R sz enc w A l) (c : Nat) : RowL sz enc w (.slice A l.length c) l := by
  refine ⟨A, c, rfl, ?_⟩
  rcases h with h | ⟨b, o, e, _, h1, h2⟩
  · exact .inl h
  · exact .inr ⟨b, o, e, h1, h2⟩
theorem RowIn.but {R X : Nat → Prop} {α : Type} {sz : Nat} {enc : α → List Value} {w w' : World} {A : Option Addr} {l : List α} (h : RowIn R sz enc w A l) (hb : But w w' X) (hx : ∀ k, X k → ¬ R k) : RowIn R sz enc w' A l := by
  rcases h with h | ⟨b, o, e, h0, h1, h2⟩
  · exact .inl h
  · exact .inr ⟨b, o, e, h0, Nat.lt_of_lt_of_le h1 hb.size, fun i x j u hi hu => but_cell hb (h2 i x j u hi hu) (fun hX => hx _ hX h0)⟩
def CfIn (R : Nat → Prop) (w : World) (f : Cf) : Prop := RowIn R 4 encCb w f.A f.l ∧ ∀ b ∈ f.l, RowIn R 2 encCl w b.A b.l
theorem CfIn.at {R : Nat → Prop} {w : World} {f : Cf} (h : CfIn R w f) : CfAt w f := ⟨h.1.rowL _, fun b hb => (h.2 b hb).rowL _⟩
theorem CfIn.but {R X : Nat → Prop} {w w' : World} {f : Cf} (h : CfIn R w f) (hb : But w w' X) (hx : ∀ k, X k → ¬ R k) : CfIn R w' f := ⟨h.1.but hb hx, fun b hm => (h.2 b hm).but hb hx⟩
/-- the map of the configurations -/
def gC (cs : List Cf) (s : ByteArray) : Option Value := (findQ cs s).map aggCf
/-- an inventory: its struct in block B, its maps, its legs; R: the blocks that nobody changes -/
structure StkAt (w : World) (R : Nat → Prop) (o : Own') (B n : Nat) (cs : List Cf) (g : Stk) : Prop where
  box : ∃ mc ml nc, w.cell? ⟨B, 0, Option.none⟩ = some (.map (some mc)) ∧ w.cell? ⟨B, 1, Option.none⟩ = some (.map (some ml)) ∧ R mc ∧ MapS w mc nc (gC cs) ∧ nc ≤ 100 ∧ o ml = .map ∧ LegM w o ml n g
  own : R B ∨ o B = .obj
  cfs : ∀ f ∈ cs, CfIn R w f ∧ RightF f ∧ smallF f ∧ OkCf f ∧ 0 < f.l.length ∧ ∀ b ∈ f.l, 0 < b.l.length
  ro : ∀ k, o k ≠ .none → ¬ R k ∧ k < w.heap.size
  rlt : ∀ k, R k → k < w.heap.size
  uniq : ∀ a b i, o a = .leg i → o b = .leg i → a = b
  liv : ∀ a i, o a = .leg i → (g i).isSome = true
theorem mut_not {o : Own'} {k : Nat} (h : MutB o k) : o k ≠ .none ∧ o k ≠ .obj ∧ ∀ i, o k ≠ .sl i := by
  unfold MutB at h
  refine ⟨fun e => ?_, fun e => ?_, fun i e => ?_⟩ <;> rw [e] at h <;> exact h
/-- nothing of it has changed -/
theorem LegM.same {w w' : World} {X : Nat → Prop} {o : Own'} {b n : Nat} {g : Stk} (h : LegM w o b n g) (hb : But w w' X) (hx : ∀ k, X k → o k = .none) (ho : o b = .map) : LegM w' o b n g := by
  obtain ⟨hh, ⟨es, clock, h1, h2⟩, h3⟩ := h
  refine ⟨hh, ⟨es, clock, (hb.block b (Array.getElem?_eq_some_iff.1 h1).1 (fun hX => ?_)).trans h1, h2⟩, fun i => ?_⟩
  · have := hx b hX; rw [ho] at this; cases this
  · have := h3 i
    revert this
    cases g i with
    | none => exact id
    | some q =>
      rintro ⟨a, e, ha⟩
      exact ⟨a, e, ha.but hb (fun k hk => by rw [hx k hk]; exact ⟨fun j h => (nomatch h), fun h => (nomatch h), fun h => (nomatch h)⟩)⟩
theorem StkAt.same {w w' : World} {X R : Nat → Prop} {o : Own'} {B n : Nat} {cs : List Cf} {g : Stk} (h : StkAt w R o B n cs g) (hb : But w w' X) (hx : ∀ k, X k → o k = .none ∧ ¬ R k) : StkAt w' R o B n cs g := by
  obtain ⟨mc, ml, nc, h1, h2, h3, h4, h5, h6, h7⟩ := h.box
  have hB : ¬ X B := fun hX => by
    rcases h.own with e | e
    · exact (hx B hX).2 e
    · rw [(hx B hX).1] at e; cases e
  have hmc : mc < w.heap.size := h4.lt
  exact ⟨⟨mc, ml, nc, but_cell hb h1 hB, but_cell hb h2 hB, h3, h4.same (hb.block mc hmc (fun hX => (hx _ hX).2 h3)), h5, h6, h7.same hb (fun k hk => (hx k hk).1) h6⟩, h.own, fun f hf => ⟨(h.cfs f hf).1.but hb (fun k hk => (hx k hk).2), (h.cfs f hf).2⟩, fun k hk => ⟨(h.ro k hk).1, Nat.lt_of_lt_of_le (h.ro k hk).2 hb.size⟩, fun k hk => Nat.lt_of_lt_of_le (h.rlt k hk) hb.size, h.uniq, h.liv⟩
theorem StkAt.more {w w' : World} {R : Nat → Prop} {o : Own'} {B n : Nat} {cs : List Cf} {g : Stk} (h : StkAt w R o B n cs g) (hb : Below w.heap.size w w') : StkAt w' R o B n cs g :=
  h.same (But.of_below (X := fun _ => False) hb) (fun k hk => hk.elim)
end Go.Proofs.YtkghpapbifijcaaGreatDoor
