/- Words and walks that the laws below ask: StkP, StkA, StkB, StkC, StkD, KitO, Sortd. -/
import Derived.Maps.Own
import Derived.DeepKeys4
import Derived.WideKeyPair
import Derived.Deep.LoopGhost
import Derived.Shelf.SlSortCmp.WholeK
import Derived.Shelf.SlLaysF0
import Derived.Test.YtjmahmeionakaaaGreatDoorProg
import Derived.Test.YtjmahmeionakaaaGreatDoorPk1
import Derived.Test.YtjmahmeionakaaaGreatDoorPk11
/- The inventory of seats as plain data: legs, what is sold on them, and what every call answers and changes. -/
namespace Go.Proofs.YtjmahmeionakaaaGreatDoor
open Go.RowKit Go.Shelf
set_option linter.unusedSimpArgs false
set_option linter.unusedVariables false

/-- the identifier of a leg -/
structure Lid where
  car : ByteArray
  num : Int
  day : Int
  frm : ByteArray
def eqD (a b : Lid) : Bool := eqS a.car b.car && decide (a.num = b.num) && decide (a.day = b.day) && eqS a.frm b.frm
theorem eqD_iff (a b : Lid) : eqD a b = true ↔ a = b := by
  obtain ⟨a1, a2, a3, a4⟩ := a
  obtain ⟨b1, b2, b3, b4⟩ := b
  unfold eqD
  simp only [Bool.and_eq_true, eqS_iff, decide_eq_true_eq, Lid.mk.injEq]
  constructor
  · rintro ⟨⟨⟨h1, h2⟩, h3⟩, h4⟩
    exact ⟨h1, h2, h3, h4⟩
  · rintro ⟨h1, h2, h3, h4⟩
    exact ⟨⟨⟨h1, h2⟩, h3⟩, h4⟩
instance : DecidableEq Lid := fun a b => if h : eqD a b = true then isTrue ((eqD_iff a b).1 h) else isFalse fun e => h ((eqD_iff a b).2 e)
/-- the state of a leg: its configuration, what is sold by cabin and rank, whether it is closed -/
structure Lg where
  f : Cf
  so : List (List Int)
  cl : Bool
abbrev Stk : Type := Lid → Option Lg
/-- nothing is sold -/
def unsP (f : Cf) : List (List Int) := f.l.map fun b => List.replicate b.l.length 0
def updS (g : Stk) (i : Lid) (q : Lg) : Stk := fun j => if j = i then some q else g j
/-- n seats more in a cabin's class -/
def addS (so : List (List Int)) (i k : Nat) (n : Int) : List (List Int) := match so[i]? with
  | some s => so.set i (wiL s k n)
  | none => so
def Lg.has (q : Lg) (c : ByteArray) : Bool := plB q.f.l c
def Lg.ci (q : Lg) (c : ByteArray) : Nat := (plI q.f.l c).toNat
def Lg.ck (q : Lg) (c : ByteArray) : Nat := (plK q.f.l c).toNat
def Lg.row (q : Lg) (i : Nat) : List Int := (q.so[i]?).getD []
def Lg.sold (q : Lg) (c : ByteArray) : Int := ((q.row (q.ci c))[q.ck c]?).getD 0
def Lg.add (q : Lg) (c : ByteArray) (n : Int) : Lg := { q with so := addS q.so (q.ci c) (q.ck c) n }
def cbZ : Cb := ⟨noB, 0, 0, none, 0, []⟩
def Lg.cab (q : Lg) (i : Nat) : Cb := (q.f.l[i]?).getD cbZ
def Lg.left (q : Lg) (c : ByteArray) : Int :=
  if q.cl = true ∨ q.has c = false then 0 else if rgtB (q.cab (q.ci c)) (q.row (q.ci c)) = true then opF (q.cab (q.ci c)) (q.row (q.ci c)) (q.ck c) else 0
def Lg.free (q : Lg) (c : ByteArray) : Int :=
  if q.has c = false then 0 else max ((q.cab (q.ci c)).seats + (q.cab (q.ci c)).over - sumI (q.row (q.ci c))) 0
/-- the seats sold, class by class -/
def cntC (l : List Cl) (s : List Int) : List (ByteArray × Int) := (l.zip s).map fun p => (p.1.code, p.2)
def cntB (l : List Cb) (so : List (List Int)) : List (ByteArray × Int) := (l.zip so).flatMap fun p => cntC p.1.l p.2
def Lg.counts (q : Lg) : List (ByteArray × Int) := cntB q.f.l q.so
/-- the greatest excess of the first k cabins -/
def exsP (l : List Cb) (so : List (List Int)) : Nat → Int
  | 0 => 0
  | k + 1 => match l[k]?, so[k]? with
    | some b, some s => max (exsP l so k) (exP b s)
    | _, _ => exsP l so k
def Lg.excess (q : Lg) : Int := exsP q.f.l q.so q.f.l.length
/-- what is sold moves to another configuration -/
def mv1 (a b : Cf) (so : List (List Int)) (x : ByteArray × Int) : List (List Int) :=
  addS so (plI b.l (lkR a.l b.l x.1).1).toNat (plK b.l (lkR a.l b.l x.1).1).toNat x.2
def mvP (a b : Cf) (xs : List (ByteArray × Int)) : List (List Int) := xs.foldl (mv1 a b) (unsP b)
def Lg.resize (q : Lg) (b : Cf) : Lg := ⟨b, mvP q.f b q.counts, q.cl⟩
/-- the errors, in their order -/
def opnE (cs : List Cf) (g : Stk) (i : Lid) (s : ByteArray) : Int := if (g i).isSome = true then 6 else if (findQ cs s).isSome = true then 0 else 7
def opnG (cs : List Cf) (g : Stk) (i : Lid) (s : ByteArray) : Stk :=
  if (g i).isSome = true then g else match findQ cs s with
    | some f => updS g i ⟨f, unsP f, false⟩
    | none => g
def cloE (g : Stk) (i : Lid) : Int := match g i with
  | some q => if q.cl = true then 10 else 0
  | none => 7
def cloG (g : Stk) (i : Lid) : Stk := match g i with
  | some q => updS g i { q with cl := true }
  | none => g
def onL (g : Stk) (p : Lg → Bool) (i : Lid) : Bool := match g i with
  | some q => p q
  | none => false
def twiP : List Lid → Bool
  | [] => false
  | i :: r => r.any (eqD i) || twiP r
def chkE (g : Stk) (is : List Lid) (n : Int) : Int :=
  if n < 1 ∨ is = [] then 2 else if twiP is = true then 6 else if is.any (fun i => (g i).isNone) = true then 7 else 0
def selP (g : Stk) (is : List Lid) (c : ByteArray) (n : Int) : Int :=
  if chkE g is n ≠ 0 then chkE g is n else if is.any (onL g fun q => q.cl) = true then 10 else if is.any (onL g fun q => !q.has c) = true then 16
  else if is.any (onL g fun q => decide (q.left c < n)) = true then 17 else 0
def canP (g : Stk) (is : List Lid) (c : ByteArray) (n : Int) : Int :=
  if chkE g is n ≠ 0 then chkE g is n else if is.any (onL g fun q => !q.has c) = true then 16
  else if is.any (onL g fun q => decide (q.sold c < n)) = true then 2 else 0
def addG1 (g : Stk) (c : ByteArray) (n : Int) (i : Lid) : Stk := match g i with
  | some q => updS g i (q.add c n)
  | none => g
def addG (g : Stk) (is : List Lid) (c : ByteArray) (n : Int) : Stk := is.foldl (fun g i => addG1 g c n i) g
def selG (g : Stk) (is : List Lid) (c : ByteArray) (n : Int) : Stk := if selP g is c n = 0 then addG g is c n else g
def canG (g : Stk) (is : List Lid) (c : ByteArray) (n : Int) : Stk := if canP g is c n = 0 then addG g is c (-n) else g
def rszE (cs : List Cf) (g : Stk) (i : Lid) (s : ByteArray) : Int := if (g i).isSome = true ∧ (findQ cs s).isSome = true then 0 else 7
def rszG (cs : List Cf) (g : Stk) (i : Lid) (s : ByteArray) : Stk := match g i, findQ cs s with
  | some q, some f => updS g i (q.resize f)
  | _, _ => g

/-- what a right leg is: K bounds what is sold in all -/
def totP (so : List (List Int)) : Int := sumI (so.map sumI)
structure OkL (K : Int) (q : Lg) : Prop where
  right : RightF q.f
  small : smallF q.f
  ok : OkCf q.f
  pos : 0 < q.f.l.length
  cls : ∀ b ∈ q.f.l, 0 < b.l.length
  len : q.so.length = q.f.l.length
  each : ∀ (i : Nat) (b : Cb) (s : List Int), q.f.l[i]? = some b → q.so[i]? = some s → s.length = b.l.length
  low : ∀ s ∈ q.so, ∀ x ∈ s, 0 ≤ x
  tot : totP q.so ≤ K
structure OkG (K : Int) (cs : List Cf) (g : Stk) : Prop where
  leg : ∀ i q, g i = some q → OkL K q ∧ q.f ∈ cs
end Go.Proofs.YtjmahmeionakaaaGreatDoor

/- The inventory in memory: who owns which block, legs, the map of legs, the map of configurations. -/
namespace Go.Proofs.YtjmahmeionakaaaGreatDoor
open Go.RowKit Go.Shelf Go.Maps Go.MapKept
open Go.WideElems (Fit rd rg pl rd_key rd_val rg_of rd_mk)
open Go.ChangeMaps (setBlock putKey notKey heap_setBlock_same heap_setBlock_other)
open Go.WideMaps (keyOf_string_mk)
set_option linter.unusedSimpArgs false
set_option linter.unusedVariables false

abbrev lidT : TypeId := 43
abbrev legT : TypeId := 93
abbrev stkT : TypeId := 71
def encD (x : Lid) : List Value := [.string x.car, .int .i64 x.num, .int .i64 x.day, .string x.frm]
abbrev aggD (x : Lid) : Value := .agg #[.string x.car, .int .i64 x.num, .int .i64 x.day, .string x.frm]
abbrev LidL (w : World) (v : Value) (l : List Lid) : Prop := RowL 4 encD w v l
structure OkD (x : Lid) : Prop where
  car : x.car.size ≤ maxLen
  n0 : -9223372036854775808 ≤ x.num
  n1 : x.num ≤ 9223372036854775807
  d0 : -9223372036854775808 ≤ x.day
  d1 : x.day ≤ 9223372036854775807
  frm : x.frm.size ≤ maxLen
theorem aggD_inj (a b : Lid) (h : aggD a = aggD b) : a = b := by
  obtain ⟨a1, a2, a3, a4⟩ := a
  obtain ⟨b1, b2, b3, b4⟩ := b
  simp only [Value.agg.injEq, Array.mk.injEq, List.cons.injEq, Value.string.injEq, Value.int.injEq, true_and, and_true] at h
  obtain ⟨rfl, rfl, rfl, rfl⟩ := h
  rfl
theorem rowD : RT Tryz.prog 48 lidT 4 encD where
  ht := Tryz.underlying48
  info := ⟨.agg #[.string noB, .int .i64 0, .int .i64 0, .string noB], 48, by kernel_rfl, rfl, by omega⟩
  len x := rfl
  one x u hu := by simp [encD] at hu; rcases hu with rfl | rfl | rfl | rfl <;> rfl
  pos := by omega

/-- whose block it is: nobody's, the map's, a leg's, a leg's list of rows, a leg's row -/
inductive Tag where
  | none
  | map
  | obj
  | leg (i : Lid)
  | sl (i : Lid)
  | row (i : Lid) (k : Nat)
abbrev Own' : Type := Nat → Tag
/-- the blocks that a call may change -/
def MutB (o : Own') (k : Nat) : Prop := match o k with
  | .map => True
  | .leg _ => True
  | .row _ _ => True
  | _ => False
/-- the rows of a leg -/
def SoldAt (w : World) (o : Own') (i : Lid) (v : Value) (so : List (List Int)) : Prop :=
  ∃ b c, v = .slice (some ⟨b, 0, Option.none⟩) so.length c ∧ o b = .sl i ∧ b < w.heap.size ∧
    ∀ (k : Nat) (s : List Int), so[k]? = some s → ∃ r c', w.cell? ⟨b, k, Option.none⟩ = some (.slice (some ⟨r, 0, Option.none⟩) s.length c') ∧ o r = .row i k ∧ Row w r s
structure LegAt (w : World) (o : Own') (i : Lid) (a : Nat) (q : Lg) : Prop where
  tag : o a = .leg i
  lt : a < w.heap.size
  c0 : w.cell? ⟨a, 0, Option.none⟩ = some (.string q.f.equip)
  c1 : w.cell? ⟨a, 1, Option.none⟩ = some (.slice q.f.A q.f.l.length q.f.c)
  c2 : ∃ v, w.cell? ⟨a, 2, Option.none⟩ = some v ∧ SoldAt w o i v q.so
  c3 : w.cell? ⟨a, 3, Option.none⟩ = some (.bool q.cl)
  froz : ∀ j, w.frozen? ⟨a, j, Option.none⟩ = false
/-- block b is the map of the legs -/
def LegM (w : World) (o : Own') (b n : Nat) (g : Stk) : Prop :=
  ∃ h : Lid → Option Value, (∃ es clock, w.heap[b]? = some (.map es clock) ∧ Fit Tryz.prog lidT Rh es clock ∧ es.size ≤ n ∧ (∀ x ∈ es.toList, ∃ c, x.key = aggD c ∧ OkD c) ∧ ∀ c v, h c = some v ↔ ∃ x ∈ es.toList, x.key = aggD c ∧ x.val = v) ∧
    ∀ i, match g i with
      | some q => ∃ a, h i = some (.pointer (some ⟨a, 0, Option.none⟩)) ∧ LegAt w o i a q
      | Option.none => h i = Option.none
/-- what has changed: of the blocks that were there, those that X names -/
theorem Below.but {w w' : World} (X : Nat → Prop) (h : Below w.heap.size w w') : But w w' X := But.of_below h
theorem but_cell {w w' : World} {X : Nat → Prop} (h : But w w' X) {a : Addr} {x : Value} (hc : w.cell? a = some x) (hn : ¬ X a.block) : w'.cell? a = some x :=
  (World.cell?_of_block (h.block a.block (World.block_lt_of_cell? _ _ hc) hn)).trans hc
theorem but_froz {w w' : World} {X : Nat → Prop} (h : But w w' X) {a : Addr} (hlt : a.block < w.heap.size) (hn : ¬ X a.block) : w'.frozen? a = w.frozen? a := by
  unfold World.frozen?
  rw [h.block _ hlt hn]
theorem Row.but {w w' : World} {X : Nat → Prop} {b : Nat} {l : List Int} (h : Row w b l) (hb : But w w' X) (hn : ¬ X b) : Row w' b l :=
  ⟨fun k hk => but_cell hb (h.cell k hk) hn, fun k hk => (but_froz (a := ⟨b, k, Option.none⟩) hb h.lt hn).trans (h.froz k hk), Nat.lt_of_lt_of_le h.lt hb.size⟩
theorem Row.at {w : World} {b : Nat} {l : List Int} (h : Row w b l) {k : Nat} {x : Int} (hk : l[k]? = some x) : w.cell? ⟨b, k, Option.none⟩ = some (.int .i64 x) := by
  obtain ⟨h1, rfl⟩ := List.getElem?_eq_some_iff.1 hk
  exact h.cell k h1
theorem SoldAt.but {w w' : World} {X : Nat → Prop} {o : Own'} {i : Lid} {v : Value} {so : List (List Int)} (h : SoldAt w o i v so) (hb : But w w' X) (hx : ∀ k, X k → (∀ j, o k ≠ .row i j) ∧ o k ≠ .sl i) : SoldAt w' o i v so := by
  obtain ⟨b, c, e, h1, h2, h3⟩ := h
  refine ⟨b, c, e, h1, Nat.lt_of_lt_of_le h2 hb.size, fun k s hk => ?_⟩
  obtain ⟨r, c', g1, g2, g3⟩ := h3 k s hk
  exact ⟨r, c', but_cell hb g1 (fun hX => (hx _ hX).2 h1), g2, g3.but hb (fun hX => (hx _ hX).1 _ g2)⟩
theorem LegAt.but {w w' : World} {X : Nat → Prop} {o : Own'} {i : Lid} {a : Nat} {q : Lg} (h : LegAt w o i a q) (hb : But w w' X) (hx : ∀ k, X k → (∀ j, o k ≠ .row i j) ∧ o k ≠ .sl i ∧ o k ≠ .leg i) : LegAt w' o i a q := by
  obtain ⟨v, h2, h3⟩ := h.c2
  have hn : ¬ X a := fun hX => (hx a hX).2.2 h.tag
  exact ⟨h.tag, Nat.lt_of_lt_of_le h.lt hb.size, but_cell hb h.c0 hn, but_cell hb h.c1 hn, ⟨v, but_cell hb h2 hn, h3.but hb (fun k hk => ⟨(hx k hk).1, (hx k hk).2.1⟩)⟩, but_cell hb h.c3 hn, fun j => (but_froz (a := ⟨a, j, Option.none⟩) hb h.lt hn).trans (h.froz j)⟩
/-- other owners, as long as this leg's blocks keep theirs -/
theorem SoldAt.own {w : World} {o o' : Own'} {i : Lid} {v : Value} {so : List (List Int)} (h : SoldAt w o i v so) (hx : ∀ k, k < w.heap.size → (o k = .sl i ∨ ∃ j, o k = .row i j) → o' k = o k) : SoldAt w o' i v so := by
  obtain ⟨b, c, e, h1, h2, h3⟩ := h
  refine ⟨b, c, e, (hx b h2 (.inl h1)).trans h1, h2, fun k s hk => ?_⟩
  obtain ⟨r, c', g1, g2, g3⟩ := h3 k s hk
  exact ⟨r, c', g1, (hx r g3.lt (.inr ⟨k, g2⟩)).trans g2, g3⟩
theorem LegAt.own {w : World} {o o' : Own'} {i : Lid} {a : Nat} {q : Lg} (h : LegAt w o i a q) (hx : ∀ k, k < w.heap.size → (o k = .leg i ∨ o k = .sl i ∨ ∃ j, o k = .row i j) → o' k = o k) : LegAt w o' i a q := by
  obtain ⟨v, h2, h3⟩ := h.c2
  exact ⟨(hx a h.lt (.inl h.tag)).trans h.tag, h.lt, h.c0, h.c1, ⟨v, h2, h3.own (fun k hk hh => hx k hk (.inr hh))⟩, h.c3, h.froz⟩

/-! ### the configurations: they lie in blocks that nobody changes -/
def RowIn (R : Nat → Prop) {α : Type} (sz : Nat) (enc : α → List Value) (w : World) (A : Option Addr) (l : List α) : Prop :=
  l = [] ∨ ∃ b o, A = some ⟨b, o, Option.none⟩ ∧ R b ∧ b < w.heap.size ∧ ∀ i x j u, l[i]? = some x → (enc x)[j]? = some u → w.cell? ⟨b, o + i * sz + j, Option.none⟩ = some u
theorem RowIn.rowL {R : Nat → Prop} {α : Type} {sz : Nat} {enc : α → List Value} {w : World} {A : Option Addr} {l : List α} (h : RowIn R sz enc w A l) (c : Nat) : RowL sz enc w (.slice A l.length c) l := by
  refine ⟨A, c, rfl, ?_⟩
  rcases h with h | ⟨b, o, e, _, h1, h2⟩
  · exact .inl h
  · exact .inr ⟨b, o, e, h1, h2⟩
theorem RowIn.but {R X : Nat → Prop} {α : Type} {sz : Nat} {enc : α → List Value} {w w' : World} {A : Option Addr} {l : List α} (h : RowIn R sz enc w A l) (hb : But w w' X) (hx : ∀ k, X k → ¬ R k) : RowIn R sz enc w' A l := by
  rcases h with h | ⟨b, o, e, h0, h1, h2⟩
  · exact .inl h
  · exact .inr ⟨b, o, e, h0, Nat.lt_of_lt_of_le h1 hb.size, fun i x j u hi hu => but_cell hb (h2 i x j u hi hu) (fun hX => hx _ hX h0)⟩
def CfIn (R : Nat → Prop) (w : World) (f : Cf) : Prop := RowIn R 4 encCb w f.A f.l ∧ ∀ b ∈ f.l, RowIn R 2 encCl w b.A b.l
theorem CfIn.at {R : Nat → Prop} {w : World} {f : Cf} (h : CfIn R w f) : CfAt w f := ⟨h.1.rowL _, fun b hb => (h.2 b hb).rowL _⟩
theorem CfIn.but {R X : Nat → Prop} {w w' : World} {f : Cf} (h : CfIn R w f) (hb : But w w' X) (hx : ∀ k, X k → ¬ R k) : CfIn R w' f := ⟨h.1.but hb hx, fun b hm => (h.2 b hm).but hb hx⟩
/-- the map of the configurations -/
def gC (cs : List Cf) (s : ByteArray) : Option Value := (findQ cs s).map aggCf
/-- an inventory: its struct in block B, its maps, its legs; R: the blocks that nobody changes -/
structure StkAt (w : World) (R : Nat → Prop) (o : Own') (B n : Nat) (cs : List Cf) (g : Stk) : Prop where
  box : ∃ mc ml nc, w.cell? ⟨B, 0, Option.none⟩ = some (.map (some mc)) ∧ w.cell? ⟨B, 1, Option.none⟩ = some (.map (some ml)) ∧ R mc ∧ MapS w mc nc (gC cs) ∧ nc ≤ 100 ∧ o ml = .map ∧ LegM w o ml n g
  own : R B ∨ o B = .obj
  cfs : ∀ f ∈ cs, CfIn R w f ∧ RightF f ∧ smallF f ∧ OkCf f ∧ 0 < f.l.length ∧ ∀ b ∈ f.l, 0 < b.l.length
  ro : ∀ k, o k ≠ .none → ¬ R k ∧ k < w.heap.size
  rlt : ∀ k, R k → k < w.heap.size
  uniq : ∀ a b i, o a = .leg i → o b = .leg i → a = b
  liv : ∀ a i, o a = .leg i → (g i).isSome = true
theorem mut_not {o : Own'} {k : Nat} (h : MutB o k) : o k ≠ .none ∧ o k ≠ .obj ∧ ∀ i, o k ≠ .sl i := by
  unfold MutB at h
  refine ⟨fun e => ?_, fun e => ?_, fun i e => ?_⟩ <;> rw [e] at h <;> exact h
/-- nothing of it has changed -/
theorem LegM.same {w w' : World} {X : Nat → Prop} {o : Own'} {b n : Nat} {g : Stk} (h : LegM w o b n g) (hb : But w w' X) (hx : ∀ k, X k → o k = .none) (ho : o b = .map) : LegM w' o b n g := by
  obtain ⟨hh, ⟨es, clock, h1, h2⟩, h3⟩ := h
  refine ⟨hh, ⟨es, clock, (hb.block b (Array.getElem?_eq_some_iff.1 h1).1 (fun hX => ?_)).trans h1, h2⟩, fun i => ?_⟩
  · have := hx b hX; rw [ho] at this; cases this
  · have := h3 i
    revert this
    cases g i with
    | none => exact id
    | some q =>
      rintro ⟨a, e, ha⟩
      exact ⟨a, e, ha.but hb (fun k hk => by rw [hx k hk]; exact ⟨fun j h => (nomatch h), fun h => (nomatch h), fun h => (nomatch h)⟩)⟩
theorem StkAt.same {w w' : World} {X R : Nat → Prop} {o : Own'} {B n : Nat} {cs : List Cf} {g : Stk} (h : StkAt w R o B n cs g) (hb : But w w' X) (hx : ∀ k, X k → o k = .none ∧ ¬ R k) : StkAt w' R o B n cs g := by
  obtain ⟨mc, ml, nc, h1, h2, h3, h4, h5, h6, h7⟩ := h.box
  have hB : ¬ X B := fun hX => by
    rcases h.own with e | e
    · exact (hx B hX).2 e
    · rw [(hx B hX).1] at e; cases e
  have hmc : mc < w.heap.size := h4.lt
  exact ⟨⟨mc, ml, nc, but_cell hb h1 hB, but_cell hb h2 hB, h3, h4.same (hb.block mc hmc (fun hX => (hx _ hX).2 h3)), h5, h6, h7.same hb (fun k hk => (hx k hk).1) h6⟩, h.own, fun f hf => ⟨(h.cfs f hf).1.but hb (fun k hk => (hx k hk).2), (h.cfs f hf).2⟩, fun k hk => ⟨(h.ro k hk).1, Nat.lt_of_lt_of_le (h.ro k hk).2 hb.size⟩, fun k hk => Nat.lt_of_lt_of_le (h.rlt k hk) hb.size, h.uniq, h.liv⟩
theorem StkAt.more {w w' : World} {R : Nat → Prop} {o : Own'} {B n : Nat} {cs : List Cf} {g : Stk} (h : StkAt w R o B n cs g) (hb : Below w.heap.size w w') : StkAt w' R o B n cs g :=
  h.same (But.of_below (X := fun _ => False) hb) (fun k hk => hk.elim)
end Go.Proofs.YtjmahmeionakaaaGreatDoor

/- Looking a leg up; the small questions: isVoid, find, place, has, sold. -/
namespace Go.Proofs.YtjmahmeionakaaaGreatDoor
open Go.RowKit Go.Shelf Go.Maps Go.MapKept
open Go.WideElems (Fit rd rg pl rd_key rd_val rg_of rd_mk)
set_option linter.unusedSimpArgs false
set_option linter.unusedVariables false

theorem laidOutS : laidOutB Tryz.prog = true := by kernel_rfl
theorem rowLid : lidT < Tryz.prog.types.size := by decide +kernel
theorem lidK : Keyed Tryz.prog lidT := Keyed.of_law (deep_law_laid laidOutS (m := 2) (by omega) rowLid (by kernel_rfl) (by kernel_rfl))
theorem key_lid (c : Lid) (h : OkD c) : ∃ kl, keyOf Tryz.prog lidT (aggD c) = some kl := by
  have hu := Tryz.underlying43
  have hs := Tryz.underlying9
  have hi := Tryz.underlying3
  have hkt : Tryz.prog.keyType lidT = true := by kernel_rfl
  have hc : Tryz.prog.cellsOf lidT = 4 := by kernel_rfl
  have hc1 : Tryz.prog.cellsOf 9 = 1 := by kernel_rfl
  have hc2 : Tryz.prog.cellsOf 3 = 1 := by kernel_rfl
  have w1 : (Lit.int .i64 c.num).wf = true := WalkArith.wf_i64 (by have := h.n0; have := h.n1; omega)
  have w2 : (Lit.int .i64 c.day).wf = true := WalkArith.wf_i64 (by have := h.d0; have := h.d1; omega)
  obtain ⟨m, hm⟩ : ∃ m, Tryz.prog.types.size = m + 1 := ⟨Tryz.prog.types.size - 1, by decide +kernel⟩
  refine ⟨.string (keyBytes [.string c.car.data.toList, .int .i64 c.num, .int .i64 c.day, .string c.frm.data.toList]), ?_⟩
  unfold keyOf aggD
  simp only [hu]
  rw [if_pos (by simp [hkt, Value.formed, hu, hc]), hm]
  unfold Program.keyLits
  simp only [hu, Value.cells]
  rw [if_pos (by simp [hc])]
  simp [List.mapM_cons, Program.keyLits, hs, hi, hc1, hc2, h.car, h.frm, w1, w2]
abbrev lgmT : TypeId := 69
abbrev lgpT : TypeId := 89
theorem zeroLg (w : World) : (zeroValue lgpT).run Tryz.prog w = .ok (.pointer none) w := by kernel_rfl
/-- what a look-up gives -/
def lkV (g : Option Nat) : Value := .pointer (g.map fun a => ⟨a, 0, none⟩)
theorem LegM.look {w : World} {o : Own'} {b n : Nat} {g : Stk} (h : LegM w o b n g) {i : Lid} (hi : OkD i) :
    ∃ p : Option Nat, (∀ W, Below w.heap.size w W → (Instr.lookup lgmT (.map (some b)) (aggD i) false).run Tryz.prog W = .ok (lkV p) W) ∧ (match g i with
      | some q => ∃ a, p = some a ∧ LegAt w o i a q
      | none => p = none) := by
  obtain ⟨hh, ⟨es, clock, hb, F, hs, hkk, hg⟩, h3⟩ := h
  obtain ⟨kl, hkey⟩ := key_lid i hi
  have h4 := h3 i
  have hlt := (Array.getElem?_eq_some_iff.1 hb).1
  have look := fun (W : World) (hW : Below w.heap.size w W) => Maps.fit_look false lidK Tryz.underlying69 (zeroLg W) ((hW.block b hlt).trans hb) F hkey
  revert h4
  cases g i with
  | none =>
    intro h4
    refine ⟨none, fun W hW => ?_, rfl⟩
    rcases look W hW with ⟨hrun, _, _⟩ | ⟨e0, y, hm, he, hrun, _⟩
    · rw [hrun]; rfl
    · have hs2 : hh i = some e0.val := (hg i _).2 ⟨e0, hm, he, rfl⟩
      rw [h4] at hs2
      cases hs2
  | some q =>
    rintro ⟨a, e, ha⟩
    refine ⟨some a, fun W hW => ?_, a, rfl, ha⟩
    rcases look W hW with ⟨hrun, hno, _⟩ | ⟨e0, y, hm, he, hrun, _⟩
    · obtain ⟨x, hx, hxe, _⟩ := (hg i _).1 e
      exact absurd hxe (hno x hx)
    · have hs2 : hh i = some e0.val := (hg i _).2 ⟨e0, hm, he, rfl⟩
      rw [hs2] at e
      have e2 : e0.val = lkV (some a) := Option.some.inj e
      rw [hrun, e2]; rfl
theorem nilM_no (m : Nat) (w : World) : (binOp .eql lgmT (.map (some m)) (.map none)).run Tryz.prog w = .ok (.bool false) w := by kernel_rfl
/-- an inventory that New did not return -/
def VoidS (w : World) (p : Option Addr) : Prop := p = none ∨ ∃ B, p = some ⟨B, 0, none⟩ ∧ w.cell? ⟨B, 1, none⟩ = some (.map none)
theorem VoidS.more {w w' : World} {p : Option Addr} (h : VoidS w p) (hb : Below w.heap.size w w') : VoidS w' p := by
  rcases h with h | ⟨B, e, h⟩
  · exact .inl h
  · exact .inr ⟨B, e, bel_cell hb h⟩
set_option maxRecDepth 100000 in
set_option maxHeartbeats 400000 in
theorem isVoid_no (B m : Nat) (w : World) (h : w.cell? ⟨B, 1, none⟩ = some (.map (some m))) : Calls Tryz.prog 67 #[.pointer (some ⟨B, 0, none⟩)] w fun e w' => e = .returned (.bool false) ∧ w = w' := by
  have hn := nilM_no m
  go_enter Tryz.func67, Tryz.ntmps67
  go_wp2
  go_ret
  exact ⟨rfl, rfl⟩
theorem lid_new (w : World) (i : Lid) : (w.alloc (.cells #[.string i.car, .int .i64 i.num, .int .i64 i.day, .string i.frm] lidT)).cell? ⟨w.heap.size, 0, none⟩ = some (.string i.car) ∧ (w.alloc (.cells #[.string i.car, .int .i64 i.num, .int .i64 i.day, .string i.frm] lidT)).cell? ⟨w.heap.size, 1, none⟩ = some (.int .i64 i.num) ∧ (w.alloc (.cells #[.string i.car, .int .i64 i.num, .int .i64 i.day, .string i.frm] lidT)).cell? ⟨w.heap.size, 2, none⟩ = some (.int .i64 i.day) ∧ (w.alloc (.cells #[.string i.car, .int .i64 i.num, .int .i64 i.day, .string i.frm] lidT)).cell? ⟨w.heap.size, 3, none⟩ = some (.string i.frm) :=
  ⟨(cells_new w _ lidT 0).trans rfl, (cells_new w _ lidT 1).trans rfl, (cells_new w _ lidT 2).trans rfl, (cells_new w _ lidT 3).trans rfl⟩
/-- what find hands back -/
def FoundL (w' : World) (o : Own') (i : Lid) (q : Option Lg) (e : Ending) : Prop := ∃ p : Option Nat, e = .returned (lkV p) ∧ (match q with
  | some q => ∃ a, p = some a ∧ LegAt w' o i a q
  | none => p = none)
set_option maxRecDepth 100000 in
set_option maxHeartbeats 1000000 in
theorem lfind_any (R : Nat → Prop) (o : Own') (B n : Nat) (cs : List Cf) (g : Stk) (i : Lid) (w : World) (hS : StkAt w R o B n cs g) (hi : OkD i) :
    Calls Tryz.prog 56 #[.pointer (some ⟨B, 0, none⟩), aggD i] w fun e w' => FoundL w' o i (g i) e ∧ Below w.heap.size w w' := by
  have hbA := bel_alloc w (.cells #[.string i.car, .int .i64 i.num, .int .i64 i.day, .string i.frm] lidT)
  have hS' := hS.more hbA
  obtain ⟨l0, l1, l2, l3⟩ := lid_new w i
  obtain ⟨mc, ml, nc, c0, c1, _, _, _, _, hM⟩ := hS'.box
  have K := isVoid_no B ml _ c1
  obtain ⟨p, hrun, hp⟩ := hM.look hi
  have HP := Lib.hid hp
  clear hp hM hS hS'
  generalize hpv : lkV p = pv at hrun
  have HRUN := Lib.hid hrun
  clear hrun
  have HPV := Lib.hid hpv
  clear hpv
  go_enter Tryz.func56, Tryz.ntmps56
  go_upto_region 1 with fail
  generalize w.alloc (.cells #[.string i.car, .int .i64 i.num, .int .i64 i.day, .string i.frm] lidT) = w5 at *
  go_upto_region 3 with (go_at_call 67; refine K.mono ?_; rintro e w' ⟨rfl, rfl⟩)
  have q0 := SW.cell l0
  have q1 := SW.cell l1
  have q2 := SW.cell l2
  have q3 := SW.cell l3
  have q4 := SW.cell c1
  have hrun' : ∀ x : Wd (SW w5), (Instr.lookup lgmT (.map (some ml)) (aggD i) false).run Tryz.prog x.w = .ok pv x.w := fun x => HRUN.out x.w x.ok
  clear l0 l1 l2 l3 c0 c1
  have hNe : Nonempty (Wd (SW w5)) := ⟨⟨_, SW.drew _⟩⟩
  refine quietS (S := SW w5) (by kernel_rfl) (by kernel_rfl) (SW.drew _) ?_
  repeat (first | go_big_quiet_skip | (go_big_quiet_want; go_big_quiet_op; first | go_big_quiet_on | go_big_quiet_call ((fail))))
  refine wpQuiet_nil ?_
  rintro W ⟨⟨_, hW⟩, rfl⟩
  go_wp2
  go_ret
  exact ⟨⟨p, by rw [HPV.out]; rfl, by
    have := HP.out
    revert this
    cases g i with
    | none => exact id
    | some q => rintro ⟨a, e, ha⟩; exact ⟨a, e, ha.but (Below.but (fun _ => False) hW) (fun k hk => hk.elim)⟩⟩, hbA.trans (Below.mono hW hbA.size)⟩
end Go.Proofs.YtjmahmeionakaaaGreatDoor

/- The place of a class on a leg; has, sold. -/
namespace Go.Proofs.YtjmahmeionakaaaGreatDoor
open Go.RowKit Go.Shelf Go.Maps Go.MapKept
set_option linter.unusedSimpArgs false
set_option linter.unusedVariables false

theorem plF_at : ∀ (l : List Cb) (s : ByteArray) (i k : Int), plF l s = some (i, k) → ∃ (b : Cb) (x : Cl), l[i.toNat]? = some b ∧ b.l[k.toNat]? = some x ∧ codeQ s x = true ∧ 0 ≤ i ∧ 0 ≤ k
  | [], s, i, k, h => by cases h
  | b :: r, s, i, k, h => by
    rw [plF] at h
    split at h
    · rename_i h0
      simp only [Option.some.injEq, Prod.mk.injEq] at h
      obtain ⟨rfl, rfl⟩ := h
      rcases idxQ_find (codeQ s) b.l with ⟨h1, _, _⟩ | ⟨m, x, h1, h2, _, _, h5, _⟩
      · omega
      · exact ⟨b, x, rfl, by rw [h1]; exact h2, h5, Int.le_refl _, h0⟩
    · cases hr : plF r s with
      | none => rw [hr] at h; cases h
      | some p =>
        rw [hr] at h
        simp only [Option.map_some, Option.some.injEq, Prod.mk.injEq] at h
        obtain ⟨rfl, rfl⟩ := h
        obtain ⟨b', x, h1, h2, h3, h4, h5⟩ := plF_at r s p.1 p.2 hr
        refine ⟨b', x, ?_, h2, h3, by omega, h5⟩
        rw [show (p.1 + 1).toNat = p.1.toNat + 1 by omega]
        simpa using h1
theorem pl_at {l : List Cb} {s : ByteArray} (h : plB l s = true) : ∃ (b : Cb) (x : Cl), l[(plI l s).toNat]? = some b ∧ b.l[(plK l s).toNat]? = some x ∧ codeQ s x = true ∧ 0 ≤ plI l s ∧ 0 ≤ plK l s := by
  unfold plB at h
  cases hp : plF l s with
  | none => rw [hp] at h; cases h
  | some p =>
    obtain ⟨h1, h2, _⟩ := pl_yes (l := l) (s := s) (i := p.1) (k := p.2) hp
    rw [h1, h2]
    exact plF_at l s p.1 p.2 hp
/-- where a class lies, and its row -/
structure PlcR (q : Lg) (c : ByteArray) (b : Cb) (s : List Int) (x : Int) : Prop where
  hb : q.f.l[q.ci c]? = some b
  hs : q.so[q.ci c]? = some s
  hx : s[q.ck c]? = some x
  len : s.length = b.l.length
  lt : q.ck c < b.l.length
  hi : (q.ci c : Int) = plI q.f.l c
  hk : (q.ck c : Int) = plK q.f.l c
theorem OkL.plc {K : Int} {q : Lg} (h : OkL K q) {c : ByteArray} (hc : q.has c = true) : ∃ b s x, PlcR q c b s x := by
  obtain ⟨b, y, h1, h2, h3, h4, h5⟩ := pl_at hc
  have hlt := (List.getElem?_eq_some_iff.1 h1).1
  obtain ⟨s, hs⟩ : ∃ s, q.so[(plI q.f.l c).toNat]? = some s := ⟨_, List.getElem?_eq_getElem (by rw [h.len]; exact hlt)⟩
  have hsl := h.each _ b s h1 hs
  have hk := (List.getElem?_eq_some_iff.1 h2).1
  obtain ⟨x, hx⟩ : ∃ x, s[(plK q.f.l c).toNat]? = some x := ⟨_, List.getElem?_eq_getElem (by rw [hsl]; exact hk)⟩
  exact ⟨b, s, x, h1, hs, hx, hsl, hk, Int.toNat_of_nonneg h4, Int.toNat_of_nonneg h5⟩
theorem PlcR.sold {q : Lg} {c : ByteArray} {b : Cb} {s : List Int} {x : Int} (h : PlcR q c b s x) : q.sold c = x := by
  unfold Lg.sold Lg.row
  rw [h.hs]
  simp only [Option.getD_some]
  rw [h.hx]
  rfl
theorem PlcR.row {q : Lg} {c : ByteArray} {b : Cb} {s : List Int} {x : Int} (h : PlcR q c b s x) : q.row (q.ci c) = s := by unfold Lg.row; rw [h.hs]; rfl
theorem PlcR.cab {q : Lg} {c : ByteArray} {b : Cb} {s : List Int} {x : Int} (h : PlcR q c b s x) : q.cab (q.ci c) = b := by unfold Lg.cab; rw [h.hb]; rfl
theorem StkAt.cfAt {w : World} {R : Nat → Prop} {o : Own'} {B n : Nat} {cs : List Cf} {g : Stk} (h : StkAt w R o B n cs g) {f : Cf} (hf : f ∈ cs) : CfAt w f := (h.cfs f hf).1.at

set_option maxRecDepth 100000 in
set_option maxHeartbeats 2000000 in
theorem lplace_yes (R : Nat → Prop) (o : Own') (B n : Nat) (cs : List Cf) (g : Stk) (K : Int) (i : Lid) (q : Lg) (c : ByteArray) (w : World) (hS : StkAt w R o B n cs g) (hG : OkG K cs g) (hi : OkD i) (hq : g i = some q) (hc : q.has c = true) :
    Calls Tryz.prog 58 #[.pointer (some ⟨B, 0, none⟩), aggD i, .string c] w fun e w' => ∃ a, e = .returned (.tuple #[.pointer (some ⟨a, 0, none⟩), .int .i64 (q.ci c), .int .i64 (q.ck c)]) ∧ LegAt w' o i a q ∧ Below w.heap.size w w' := by
  have hbA := bel_alloc w (.cells #[.string i.car, .int .i64 i.num, .int .i64 i.day, .string i.frm] lidT)
  have hS' := hS.more hbA
  obtain ⟨l0, l1, l2, l3⟩ := lid_new w i
  obtain ⟨hL, hf⟩ := hG.leg i q hq
  obtain ⟨b, s, x, hP⟩ := hL.plc hc
  have hsm := hL.small
  have K1 : Hid (∀ W, StkAt W R o B n cs g → Calls Tryz.prog 56 #[.pointer (some ⟨B, 0, none⟩), aggD i] W fun e w' => ∃ a, e = .returned (.pointer (some ⟨a, 0, none⟩)) ∧ LegAt w' o i a q ∧ CfAt w' q.f ∧ Below W.heap.size W w') := Lib.hid (fun W h => (lfind_any R o B n cs g i W h hi).mono (by
    rintro e w' ⟨⟨p, rfl, hp⟩, hb⟩
    rw [hq] at hp
    obtain ⟨a, rfl, ha⟩ := hp
    exact ⟨a, rfl, ha, (h.more hb).cfAt hf, hb⟩))
  have K2 : Hid (∀ W, CfAt W q.f → Calls Tryz.prog 72 #[.agg #[.string q.f.equip, .slice q.f.A q.f.l.length q.f.c], .string c] W fun e w' => e = .returned (.tuple #[.int .i64 (q.ci c), .int .i64 (q.ck c), .bool true]) ∧ Below W.heap.size W w') := Lib.hid (fun W h => (place_any q.f.equip q.f.A q.f.c q.f.l c W h hsm.1 hsm.2).mono (by
    rintro e w' ⟨rfl, hb⟩
    refine ⟨?_, hb⟩
    rw [hP.hi, hP.hk, show plB q.f.l c = true from hc]))
  generalize hci : (q.ci c : Int) = vi at K2 ⊢
  generalize hck : (q.ck c : Int) = vk at K2 ⊢
  have HS := Lib.hid hS'
  clear hS hS' hL hP hc hsm hci hck hq
  go_enter Tryz.func58, Tryz.ntmps58
  go_upto_region 1 with fail
  generalize w.alloc (.cells #[.string i.car, .int .i64 i.num, .int .i64 i.day, .string i.frm] lidT) = w5 at *
  go_upto_region 2 with (go_at_call 56; refine (K1.out _ HS.out).mono ?_; rintro e w6 ⟨a, rfl, ha, hcf, hb6⟩)
  have c0 := ha.c0
  have c1 := ha.c1
  have HA := Lib.hid ha
  clear ha
  go_wp2_with (go_at_call 72; refine (K2.out _ hcf).mono ?_; rintro e w7 ⟨rfl, hb7⟩)
  refine bodyPost_ret (results_tmp3 rfl _ _ _) rfl ⟨a, rfl, HA.out.but (Below.but (fun _ => False) hb7) (fun k hk => hk.elim), hbA.trans ((hb6.trans (hb7.mono hb6.size)).mono hbA.size)⟩
set_option maxRecDepth 100000 in
set_option maxHeartbeats 2000000 in
theorem lplace_no (R : Nat → Prop) (o : Own') (B n : Nat) (cs : List Cf) (g : Stk) (K : Int) (i : Lid) (c : ByteArray) (w : World) (hS : StkAt w R o B n cs g) (hG : OkG K cs g) (hi : OkD i) (hc : ∀ q, g i = some q → q.has c = false) :
    Calls Tryz.prog 58 #[.pointer (some ⟨B, 0, none⟩), aggD i, .string c] w fun e w' => e = .returned (.tuple #[.pointer none, .int .i64 0, .int .i64 0]) ∧ Below w.heap.size w w' := by
  have hbA := bel_alloc w (.cells #[.string i.car, .int .i64 i.num, .int .i64 i.day, .string i.frm] lidT)
  have hS' := hS.more hbA
  obtain ⟨l0, l1, l2, l3⟩ := lid_new w i
  have HS := Lib.hid hS'
  cases hq : g i with
  | none =>
    have K1 : Hid (∀ W, StkAt W R o B n cs g → Calls Tryz.prog 56 #[.pointer (some ⟨B, 0, none⟩), aggD i] W fun e w' => e = .returned (.pointer none) ∧ Below W.heap.size W w') := Lib.hid (fun W h => (lfind_any R o B n cs g i W h hi).mono (by
      rintro e w' ⟨⟨p, rfl, hp⟩, hb⟩
      rw [hq] at hp
      obtain rfl := hp
      exact ⟨rfl, hb⟩))
    clear hS hS' hc hq
    go_enter Tryz.func58, Tryz.ntmps58
    go_upto_region 1 with fail
    generalize w.alloc (.cells #[.string i.car, .int .i64 i.num, .int .i64 i.day, .string i.frm] lidT) = w5 at *
    go_wp2_with (go_at_call 56; refine (K1.out _ HS.out).mono ?_; rintro e w6 ⟨rfl, hb6⟩)
    refine bodyPost_ret (results_tmp3 rfl _ _ _) rfl ⟨rfl, hbA.trans (hb6.mono hbA.size)⟩
  | some q =>
    obtain ⟨hL, hf⟩ := hG.leg i q hq
    have hsm := hL.small
    have hc := hc q hq
    have K1 : Hid (∀ W, StkAt W R o B n cs g → Calls Tryz.prog 56 #[.pointer (some ⟨B, 0, none⟩), aggD i] W fun e w' => ∃ a, e = .returned (.pointer (some ⟨a, 0, none⟩)) ∧ LegAt w' o i a q ∧ CfAt w' q.f ∧ Below W.heap.size W w') := Lib.hid (fun W h => (lfind_any R o B n cs g i W h hi).mono (by
      rintro e w' ⟨⟨p, rfl, hp⟩, hb⟩
      rw [hq] at hp
      obtain ⟨a, rfl, ha⟩ := hp
      exact ⟨a, rfl, ha, (h.more hb).cfAt hf, hb⟩))
    have K2 : Hid (∀ W, CfAt W q.f → Calls Tryz.prog 72 #[.agg #[.string q.f.equip, .slice q.f.A q.f.l.length q.f.c], .string c] W fun e w' => ∃ vi vk, e = .returned (.tuple #[.int .i64 vi, .int .i64 vk, .bool false]) ∧ Below W.heap.size W w') := Lib.hid (fun W h => (place_any q.f.equip q.f.A q.f.c q.f.l c W h hsm.1 hsm.2).mono (by
      rintro e w' ⟨rfl, hb⟩
      exact ⟨_, _, by rw [show plB q.f.l c = false from hc], hb⟩))
    clear hS hS' hL hc hsm hq
    go_enter Tryz.func58, Tryz.ntmps58
    go_upto_region 1 with fail
    generalize w.alloc (.cells #[.string i.car, .int .i64 i.num, .int .i64 i.day, .string i.frm] lidT) = w5 at *
    go_upto_region 2 with (go_at_call 56; refine (K1.out _ HS.out).mono ?_; rintro e w6 ⟨a, rfl, ha, hcf, hb6⟩)
    have c0 := ha.c0
    have c1 := ha.c1
    clear ha
    go_wp2_with (go_at_call 72; refine (K2.out _ hcf).mono ?_; rintro e w7 ⟨vi, vk, rfl, hb7⟩)
    refine bodyPost_ret (results_tmp3 rfl _ _ _) rfl ⟨rfl, hbA.trans ((hb6.trans (hb7.mono hb6.size)).mono hbA.size)⟩
set_option maxRecDepth 100000 in
set_option maxHeartbeats 2000000 in
theorem lhas_any (R : Nat → Prop) (o : Own') (B n : Nat) (cs : List Cf) (g : Stk) (K : Int) (i : Lid) (c : ByteArray) (w : World) (hS : StkAt w R o B n cs g) (hG : OkG K cs g) (hi : OkD i) :
    Calls Tryz.prog 64 #[.pointer (some ⟨B, 0, none⟩), aggD i, .string c] w fun e w' => e = .returned (.bool (onL g (fun q => q.has c) i)) ∧ Below w.heap.size w w' := by
  have hbA := bel_alloc w (.cells #[.string i.car, .int .i64 i.num, .int .i64 i.day, .string i.frm] lidT)
  have hS' := hS.more hbA
  obtain ⟨l0, l1, l2, l3⟩ := lid_new w i
  have HS := Lib.hid hS'
  cases hh : onL g (fun q => q.has c) i with
  | true =>
    obtain ⟨q, hq, hc⟩ : ∃ q, g i = some q ∧ q.has c = true := by
      unfold onL at hh
      cases hq : g i with
      | none => rw [hq] at hh; cases hh
      | some q => rw [hq] at hh; exact ⟨q, rfl, hh⟩
    have K1 := Lib.hid (fun W h => lplace_yes R o B n cs g K i q c W h hG hi hq hc)
    generalize (q.ci c : Int) = vi at K1
    generalize (q.ck c : Int) = vk at K1
    clear hS hS' hh hq hc
    go_enter Tryz.func64, Tryz.ntmps64
    go_upto_region 1 with fail
    generalize w.alloc (.cells #[.string i.car, .int .i64 i.num, .int .i64 i.day, .string i.frm] lidT) = w5 at *
    go_wp2_with (go_at_call 58; refine (K1.out _ HS.out).mono ?_; rintro e w6 ⟨a, rfl, _, hb6⟩)
    go_ret
    exact ⟨rfl, hbA.trans (hb6.mono hbA.size)⟩
  | false =>
    have K1 := Lib.hid (fun W h => lplace_no R o B n cs g K i c W h hG hi (fun q hq => by unfold onL at hh; rw [hq] at hh; exact hh))
    clear hS hS' hh
    go_enter Tryz.func64, Tryz.ntmps64
    go_upto_region 1 with fail
    generalize w.alloc (.cells #[.string i.car, .int .i64 i.num, .int .i64 i.day, .string i.frm] lidT) = w5 at *
    go_wp2_with (go_at_call 58; refine (K1.out _ HS.out).mono ?_; rintro e w6 ⟨rfl, hb6⟩)
    go_ret
    exact ⟨rfl, hbA.trans (hb6.mono hbA.size)⟩
/-- the cells of a class's number -/
theorem LegAt.num {w : World} {o : Own'} {i : Lid} {a : Nat} {q : Lg} (h : LegAt w o i a q) {c : ByteArray} {b : Cb} {s : List Int} {x : Int} (hP : PlcR q c b s x) :
    ∃ sb sc r rc, w.cell? ⟨a, 2, none⟩ = some (.slice (some ⟨sb, 0, none⟩) q.so.length sc) ∧ w.cell? ⟨sb, q.ci c, none⟩ = some (.slice (some ⟨r, 0, none⟩) s.length rc) ∧ w.cell? ⟨r, q.ck c, none⟩ = some (.int .i64 x) ∧ o r = .row i (q.ci c) ∧ Row w r s ∧ q.ci c < q.so.length ∧ q.ck c < s.length := by
  obtain ⟨v, h2, sb, sc, rfl, h3, h4, h5⟩ := h.c2
  obtain ⟨r, rc, g1, g2, g3⟩ := h5 _ s hP.hs
  exact ⟨sb, sc, r, rc, h2, g1, g3.at hP.hx, g2, g3, (List.getElem?_eq_some_iff.1 hP.hs).1, (List.getElem?_eq_some_iff.1 hP.hx).1⟩
set_option maxRecDepth 100000 in
set_option maxHeartbeats 2000000 in
theorem lsold_any (R : Nat → Prop) (o : Own') (B n : Nat) (cs : List Cf) (g : Stk) (K : Int) (i : Lid) (q : Lg) (c : ByteArray) (w : World) (hS : StkAt w R o B n cs g) (hG : OkG K cs g) (hi : OkD i) (hq : g i = some q) (hc : q.has c = true) :
    Calls Tryz.prog 79 #[.pointer (some ⟨B, 0, none⟩), aggD i, .string c] w fun e w' => e = .returned (.int .i64 (q.sold c)) ∧ Below w.heap.size w w' := by
  have hbA := bel_alloc w (.cells #[.string i.car, .int .i64 i.num, .int .i64 i.day, .string i.frm] lidT)
  have hS' := hS.more hbA
  obtain ⟨l0, l1, l2, l3⟩ := lid_new w i
  have HS := Lib.hid hS'
  have K1 := Lib.hid (fun W h => lplace_yes R o B n cs g K i q c W h hG hi hq hc)
  obtain ⟨b, s, x, hP⟩ := (hG.leg i q hq).1.plc hc
  rw [hP.sold]
  have HP := Lib.hid hP
  have KN : Hid (∀ W a, LegAt W o i a q → ∃ sb sc r rc, W.cell? ⟨a, 2, none⟩ = some (.slice (some ⟨sb, 0, none⟩) q.so.length sc) ∧ W.cell? ⟨sb, q.ci c, none⟩ = some (.slice (some ⟨r, 0, none⟩) s.length rc) ∧ W.cell? ⟨r, q.ck c, none⟩ = some (.int .i64 x) ∧ o r = .row i (q.ci c) ∧ Row W r s ∧ q.ci c < q.so.length ∧ q.ck c < s.length) := Lib.hid (fun W a h => h.num HP.out)
  generalize q.ci c = ni at K1 KN
  generalize q.ck c = nk at K1 KN
  clear hS hS' hq hc hP
  go_enter Tryz.func79, Tryz.ntmps79
  go_upto_region 1 with fail
  generalize w.alloc (.cells #[.string i.car, .int .i64 i.num, .int .i64 i.day, .string i.frm] lidT) = w5 at *
  go_upto_region 2 with (go_at_call 58; refine (K1.out _ HS.out).mono ?_; rintro e w6 ⟨a, rfl, ha, hb6⟩)
  obtain ⟨sb, sc, r, rc, d2, d3, d4, _, _, d5, d6⟩ := KN.out _ _ ha
  have i1 : (0 : Int) ≤ (ni : Int) := by omega
  have i2 : (ni : Int) < (q.so.length : Int) := by omega
  have i3 : (0 : Int) ≤ (nk : Int) := by omega
  have i4 : (nk : Int) < (s.length : Int) := by omega
  clear ha d5 d6
  go_wp2
  go_ret
  exact ⟨rfl, hbA.trans (hb6.mono hbA.size)⟩
end Go.Proofs.YtjmahmeionakaaaGreatDoor

/- slices.IndexFunc and slices.ContainsFunc at identifiers of legs. -/
namespace Go.Proofs.YtjmahmeionakaaaGreatDoor
open Go.RowKit Go.Shelf
set_option linter.unusedSimpArgs false
set_option linter.unusedVariables false

theorem idxQ_any {α : Type} (p : α → Bool) (l : List α) : decide (0 ≤ idxQ p l) = l.any p := by
  rcases idxQ_find p l with ⟨h1, _, h3⟩ | ⟨k, a, h1, h2, _, _, h5, _⟩
  · have : l.any p = false := by
      rw [List.any_eq_false]
      intro x hx
      obtain ⟨j, hj, rfl⟩ := List.getElem_of_mem hx
      rw [h3 j _ (List.getElem?_eq_getElem hj)]
      simp
    rw [this, h1]
    rfl
  · have : l.any p = true := List.any_eq_true.2 ⟨a, List.mem_of_getElem? h2, h5⟩
    rw [this, h1]
    simp
set_option maxHeartbeats 4000000 in
set_option maxRecDepth 100000 in
theorem idxD_any (g : Nat) (cb : Array Value) (A : Option Addr) (c : Nat) (l : List Lid) (p : Lid → Bool) (w : World) (eg : ∀ args w, (callFunc g args).run Tryz.prog w = .ok (.enter g args) w) (hl : l.length ≤ 1000) (hL : LidL w (.slice A l.length c) l)
    (hf : ∀ (a : Lid) (W : World), a ∈ l → Below w.heap.size w W → Calls Tryz.prog g (#[aggD a] ++ cb) W fun e w' => e = .returned (.bool (p a)) ∧ Below W.heap.size W w') :
    Calls Tryz.prog 108 #[.slice A l.length c, .func (.func g) #[] cb] w fun e w' => e = .returned (.int .i64 (idxQ p l)) ∧ Below w.heap.size w w' := by
  have HF := Lib.hid hf
  have HI : Hid (∀ (k : Nat) (a : Lid), (∀ (j : Nat) (x : Lid), j < k → l[j]? = some x → p x = false) → l[k]? = some a → p a = true → idxQ p l = (k : Int)) := Lib.hid (fun k a => idxQ_yes)
  have HN : Hid ((∀ (j : Nat) (x : Lid), l[j]? = some x → p x = false) → idxQ p l = -1) := Lib.hid idxQ_no
  have HL := Lib.hid hL
  clear hf hL
  generalize idxQ p l = r at *
  go_enter Tryz.func108, Tryz.ntmps108
  go_wp2
  go_loopw [8] (fun vi wr => ∃ k : Nat, k ≤ l.length ∧ vi = .int .i64 k ∧ Hid (∀ (j : Nat) (x : Lid), j < k → l[j]? = some x → p x = false) ∧ Below w.heap.size w wr) (fun vi _ => l.length - (intOf vi).toNat)
  case atStart => exact ⟨0, Nat.zero_le _, rfl, Lib.hid (fun j x hj => absurd hj (Nat.not_lt_zero _)), Below.refl _ _⟩
  case round =>
    obtain ⟨k, hk, rfl, HK, hb⟩ := hrel
    by_cases hlt : k < l.length
    · obtain ⟨a, hka⟩ : ∃ a, l[k]? = some a := ⟨_, List.getElem?_eq_getElem hlt⟩
      obtain ⟨b, off, e1, hgl, ha⟩ := row_get (HL.out.more hb) hka
      cases e1
      have i2 : (k : Int) < (l.length : Int) := by omega
      have z0 := ha 0 _ rfl
      have z1 := ha 1 _ rfl
      have z2 := ha 2 _ rfl
      have z3 := ha 3 _ rfl
      rw [Nat.add_zero] at z0
      have hc := HF.out a wr (List.mem_of_getElem? hka) hb
      clear ha hgl
      cases hp : p a <;> rw [hp] at hc
      · have HP := Lib.hid hp
        have HA := Lib.hid hka
        clear hp hka
        go_wp2_with (refine hc.mono ?_; rintro e w' ⟨rfl, hb'⟩)
        go_roundw
        case rel =>
          refine ⟨k + 1, by omega, by go_num, Lib.hid (fun j x hj hx => ?_), hb.trans (hb'.mono hb.size)⟩
          by_cases hjk : j = k
          · subst hjk
            rw [HA.out] at hx
            cases hx
            exact HP.out
          · exact HK.out j x (by omega) hx
        case measure => simp [intOf]; omega
      · have HR := Lib.hid (HI.out k a HK.out hka hp)
        clear hp hka
        go_wp2_with (refine hc.mono ?_; rintro e w' ⟨rfl, hb'⟩)
        go_ret
        exact ⟨by rw [HR.out]; rfl, hb.trans (hb'.mono hb.size)⟩
    · have HR := Lib.hid (HN.out (fun j x hx => HK.out j x (by have := (List.getElem?_eq_some_iff.1 hx).1; omega) hx))
      go_wp2
      go_ret
      exact ⟨by rw [HR.out]; rfl, hb⟩
set_option maxHeartbeats 1000000 in
theorem containsD_any (g : Nat) (cb : Array Value) (A : Option Addr) (c : Nat) (l : List Lid) (p : Lid → Bool) (w : World) (eg : ∀ args w, (callFunc g args).run Tryz.prog w = .ok (.enter g args) w) (hl : l.length ≤ 1000) (hL : LidL w (.slice A l.length c) l)
    (hf : ∀ (a : Lid) (W : World), a ∈ l → Below w.heap.size w W → Calls Tryz.prog g (#[aggD a] ++ cb) W fun e w' => e = .returned (.bool (p a)) ∧ Below W.heap.size W w') :
    Calls Tryz.prog 61 #[.slice A l.length c, .func (.func g) #[] cb] w fun e w' => e = .returned (.bool (l.any p)) ∧ Below w.heap.size w w' := by
  have HI := Lib.hid (idxD_any g cb A c l p w eg hl hL hf)
  rw [← idxQ_any p l]
  clear hf hL
  generalize idxQ p l = r at *
  by_cases hr : 0 ≤ r
  · have hd : decide (0 ≤ r) = true := decide_eq_true hr
    rw [hd]
    go_enter Tryz.func61, Tryz.ntmps61
    go_wp2_with (go_at_call 108; refine HI.out.mono ?_; rintro e w' ⟨rfl, hb⟩)
    go_ret
    exact ⟨rfl, hb⟩
  · have hd : decide (0 ≤ r) = false := decide_eq_false hr
    rw [hd]
    go_enter Tryz.func61, Tryz.ntmps61
    go_wp2_with (go_at_call 108; refine HI.out.mono ?_; rintro e w' ⟨rfl, hb⟩)
    go_ret
    exact ⟨rfl, hb⟩
end Go.Proofs.YtjmahmeionakaaaGreatDoor

/- The order of texts and of numbers; cmp.Compare; worlds that have only drawn and grown. -/
namespace Go.Proofs.YtjmahmeionakaaaGreatDoor
open Go.RowKit Go.Shelf
set_option linter.unusedSimpArgs false
set_option linter.unusedVariables false

/-! ### the order of texts -/
theorem less_asym : ∀ x y : List UInt8, Op.bytesLess x y = true → Op.bytesLess y x = false
  | _, [], h => by simp [Op.bytesLess] at h
  | [], _ :: _, _ => rfl
  | a :: x, b :: y, h => by
    simp only [Op.bytesLess, Bool.or_eq_true, decide_eq_true_eq, Bool.and_eq_true, beq_iff_eq] at h
    have hlt : ∀ u v : UInt8, u < v ↔ u.toNat < v.toNat := fun u v => UInt8.lt_iff_toNat_lt
    rcases h with h | ⟨rfl, h⟩
    · have h1 : ¬ b < a := by rw [hlt] at h ⊢; omega
      have h2 : ¬ b = a := by rintro rfl; rw [hlt] at h; omega
      simp [Op.bytesLess, h1, h2]
    · have h1 : ¬ a < a := by rw [hlt]; omega
      simp [Op.bytesLess, h1, less_asym x y h]
theorem less_total : ∀ x y : List UInt8, Op.bytesLess x y = false → x ≠ y → Op.bytesLess y x = true
  | [], [], _, h => absurd rfl h
  | _ :: _, [], _, _ => rfl
  | [], _ :: _, h, _ => by simp [Op.bytesLess] at h
  | a :: x, b :: y, h, hne => by
    simp only [Op.bytesLess, Bool.or_eq_false_iff, decide_eq_false_iff_not, Bool.and_eq_false_iff] at h
    have hlt : ∀ u v : UInt8, u < v ↔ u.toNat < v.toNat := fun u v => UInt8.lt_iff_toNat_lt
    by_cases e : a = b
    · subst e
      have h1 : Op.bytesLess x y = false := by rcases h.2 with h | h; exact absurd h (by simp); exact h
      have := less_total x y h1 (fun e => hne (by rw [e]))
      simp [Op.bytesLess, this]
    · have h1 : b < a := by
        have h0 := h.1
        have h2 : a.toNat ≠ b.toNat := fun h => e (UInt8.toNat_inj.1 h)
        rw [hlt] at h0 ⊢
        omega
      simp [Op.bytesLess, h1]
variable {P : Program}
end Go.Proofs.YtjmahmeionakaaaGreatDoor

namespace Go.Proofs.YtjmahmeionakaaaGreatDoor
open Go.RowKit Go.Shelf
set_option linter.unusedSimpArgs false
set_option linter.unusedVariables false

theorem car_eq (a b : ByteArray) : (a.toList == b.toList) = decide (a = b) := by
  by_cases h : a = b
  · subst h; simp
  · have h2 : a.toList ≠ b.toList := toList_ne h
    simp [h, h2]
end Go.Proofs.YtjmahmeionakaaaGreatDoor

namespace Go.Proofs.YtjmahmeionakaaaGreatDoor
open Go.RowKit Go.Shelf Go.Lib Go.Sort
set_option linter.unusedSimpArgs false
set_option linter.unusedVariables false

def LessT (x y : ByteArray) : Prop := Op.bytesLess x.toList y.toList = true
theorem lessT_irrefl (x : ByteArray) : ¬ LessT x x := fun h => by
  have h2 := less_asym _ _ h
  unfold LessT at h
  rw [h] at h2
  cases h2
theorem lessT_trans {x y z : ByteArray} (h1 : LessT x y) (h2 : LessT y z) : LessT x z := by
  unfold LessT at *
  rw [bytesLess_eq, decide_eq_true_eq] at *
  exact List.lt_trans h1 h2
theorem lessT_tri (x y : ByteArray) : LessT x y ∨ x = y ∨ LessT y x := by
  by_cases e : x = y
  · exact .inr (.inl e)
  · cases h : Op.bytesLess x.toList y.toList with
    | true => exact .inl h
    | false => exact .inr (.inr (less_total _ _ h (toList_ne e)))
/-- what the program's comparison of legs returns -/
def cmT (x y : ByteArray) : Int := if Op.bytesLess x.toList y.toList then -1 else if Op.bytesLess y.toList x.toList then 1 else 0
theorem cmp_int (x y : Int) : (x < y ∧ Lib.compareInt x y = -1) ∨ (x = y ∧ Lib.compareInt x y = 0) ∨ (y < x ∧ Lib.compareInt x y = 1) := by
  unfold Lib.compareInt
  by_cases h1 : x < y
  · exact .inl ⟨h1, by rw [if_pos h1]⟩
  · by_cases h2 : y < x
    · exact .inr (.inr ⟨h2, by rw [if_neg h1, if_pos h2]⟩)
    · exact .inr (.inl ⟨by omega, by rw [if_neg h1, if_neg h2]⟩)
theorem cmp_txt (x y : ByteArray) : (LessT x y ∧ cmT x y = -1) ∨ (x = y ∧ cmT x y = 0) ∨ (LessT y x ∧ cmT x y = 1) := by
  unfold cmT
  rcases lessT_tri x y with h | h | h
  · have h1 : Op.bytesLess x.toList y.toList = true := h
    exact .inl ⟨h, by rw [if_pos h1]⟩
  · subst h
    have := lessT_irrefl x
    unfold LessT at this
    exact .inr (.inl ⟨rfl, by rw [if_neg this, if_neg this]⟩)
  · have h2 := less_asym _ _ h
    have h1 : Op.bytesLess y.toList x.toList = true := h
    exact .inr (.inr ⟨h, by rw [if_neg (by rw [h2]; simp), if_pos h1]⟩)
end Go.Proofs.YtjmahmeionakaaaGreatDoor

namespace Go.Proofs.YtjmahmeionakaaaGreatDoor
open Go.RowKit Go.Shelf Go.Lib Go.Sort
set_option linter.unusedSimpArgs false
set_option linter.unusedVariables false

set_option maxRecDepth 100000 in
theorem nanI_any (x : Int) (w : World) : Calls Tryz.prog 141 #[.int .i64 x] w fun e w' => e = .returned (.bool false) ∧ w' = w := by
  have h : (x != x) = false := by simp
  go_enter Tryz.func141, Tryz.ntmps141
  go_wp2
  go_ret
  exact ⟨by first | rfl | (simp), rfl⟩
set_option maxRecDepth 100000 in
theorem nanS_any (x : ByteArray) (w : World) : Calls Tryz.prog 140 #[.string x] w fun e w' => e = .returned (.bool false) ∧ w' = w := by
  have h : (x.toList == x.toList) = true := by simp
  go_enter Tryz.func140, Tryz.ntmps140
  go_wp2
  go_ret
  exact ⟨by first | rfl | (simp), rfl⟩
set_option maxRecDepth 100000 in
set_option maxHeartbeats 4000000 in
theorem cmpI_any (x y : Int) (w : World) : Calls Tryz.prog 121 #[.int .i64 x, .int .i64 y] w fun e w' => e = .returned (.int .i64 (Lib.compareInt x y)) ∧ w' = w := by
  have K1 := Lib.hid (nanI_any x w)
  have K2 := Lib.hid (nanI_any y w)
  rcases cmp_int x y with ⟨h, e⟩ | ⟨h, e⟩ | ⟨h, e⟩ <;> rw [e]
  · go_enter Tryz.func121, Tryz.ntmps121
    go_wp2_with (first | (go_at_call 141; with_reducible refine K1.out.mono ?_; rintro e w' ⟨rfl, rfl⟩) | (go_at_call 141; with_reducible refine K2.out.mono ?_; rintro e w' ⟨rfl, rfl⟩))
    go_ret
    exact ⟨rfl, rfl⟩
  · subst h
    have i1 : ¬ x < x := by omega
    go_enter Tryz.func121, Tryz.ntmps121
    go_wp2_with (first | (go_at_call 141; with_reducible refine K1.out.mono ?_; rintro e w' ⟨rfl, rfl⟩) | (go_at_call 141; with_reducible refine K2.out.mono ?_; rintro e w' ⟨rfl, rfl⟩))
    go_ret
    exact ⟨rfl, rfl⟩
  · have i1 : ¬ x < y := by omega
    go_enter Tryz.func121, Tryz.ntmps121
    go_wp2_with (first | (go_at_call 141; with_reducible refine K1.out.mono ?_; rintro e w' ⟨rfl, rfl⟩) | (go_at_call 141; with_reducible refine K2.out.mono ?_; rintro e w' ⟨rfl, rfl⟩))
    go_ret
    exact ⟨rfl, rfl⟩
set_option maxRecDepth 100000 in
set_option maxHeartbeats 4000000 in
theorem cmpS_any (x y : ByteArray) (w : World) : Calls Tryz.prog 120 #[.string x, .string y] w fun e w' => e = .returned (.int .i64 (cmT x y)) ∧ w' = w := by
  have K1 := Lib.hid (nanS_any x w)
  have K2 := Lib.hid (nanS_any y w)
  rcases cmp_txt x y with ⟨h, e⟩ | ⟨h, e⟩ | ⟨h, e⟩ <;> rw [e] <;> clear e
  · have h1 : Op.bytesLess x.toList y.toList = true := h
    go_enter Tryz.func120, Tryz.ntmps120
    go_wp2_with (first | (go_at_call 140; with_reducible refine K1.out.mono ?_; rintro e w' ⟨rfl, rfl⟩) | (go_at_call 140; with_reducible refine K2.out.mono ?_; rintro e w' ⟨rfl, rfl⟩))
    go_ret
    exact ⟨rfl, rfl⟩
  · subst h
    have h1 : Op.bytesLess x.toList x.toList = false := by simpa [LessT] using lessT_irrefl x
    have h2 : (x.toList == x.toList) = true := by simp
    go_enter Tryz.func120, Tryz.ntmps120
    go_wp2_with (first | (go_at_call 140; with_reducible refine K1.out.mono ?_; rintro e w' ⟨rfl, rfl⟩) | (go_at_call 140; with_reducible refine K2.out.mono ?_; rintro e w' ⟨rfl, rfl⟩))
    go_ret
    exact ⟨rfl, rfl⟩
  · have h1 : Op.bytesLess x.toList y.toList = false := less_asym _ _ h
    have h2 : (x.toList == y.toList) = false := by
      rw [car_eq, decide_eq_false_iff_not]
      rintro rfl
      exact lessT_irrefl _ h
    clear h
    go_enter Tryz.func120, Tryz.ntmps120
    go_wp2_with (first | (go_at_call 140; with_reducible refine K1.out.mono ?_; rintro e w' ⟨rfl, rfl⟩) | (go_at_call 140; with_reducible refine K2.out.mono ?_; rintro e w' ⟨rfl, rfl⟩))
    go_ret
    exact ⟨rfl, rfl⟩
/-- a world that has only drawn and grown -/
structure GR (w W : World) : Prop where
  bel : Below w.heap.size w W
  dr : w.drawn ≤ W.drawn
theorem GR.refl (w : World) : GR w w := ⟨Below.refl _ _, Nat.le_refl _⟩
theorem GR.drew {w W : World} (h : GR w W) : GR w W.drew := ⟨h.bel.drew, Nat.le_trans h.dr (Nat.le_succ _)⟩
theorem GR.alloc {w W : World} (h : GR w W) (o : Obj) : GR w (W.alloc o) := ⟨h.bel.trans ((bel_alloc W o).mono h.bel.size), h.dr⟩
theorem GR.grown {w W : World} (h : GR w W) : ∃ q os, W = grow (w.drewN q) os := by
  obtain ⟨⟨h1, h2, h3, h4, h5⟩, h6⟩ := h
  refine ⟨W.drawn - w.drawn, W.heap.extract w.heap.size W.heap.size, ?_⟩
  obtain ⟨hp, tp, dr, os, out⟩ := W
  obtain ⟨hp', tp', dr', os', out'⟩ := w
  dsimp only at h1 h2 h3 h4 h5 h6
  subst h1 h2 h3
  unfold grow World.drewN
  dsimp only
  congr 1
  · apply Array.ext_getElem?
    intro i
    by_cases hi : i < hp'.size
    · rw [Array.getElem?_append_left hi]; exact h5 i hi
    · rw [Array.getElem?_append_right (by omega), Array.getElem?_extract]
      by_cases hi2 : i < hp.size
      · rw [if_pos (by omega)]; congr 1; omega
      · rw [if_neg (by omega), Array.getElem?_eq_none (by omega)]
  · omega
theorem GR.cells {w W : World} {a : Addr} {v : Value} (h : GR w W) (hc : w.cell? a = some v) : W.cell? a = some v := bel_cell h.bel hc
end Go.Proofs.YtjmahmeionakaaaGreatDoor

/-
  DERIVED: THE SHELF's CONTRACTS AT THIS DUMP, IN PLAIN WORDS (tools/lay-plain.mjs out of 'TryzSortd.lean', which tools/lay-shelf.mjs wrote): THE SAME DECLARATIONS UNDER THE SAME NAMES: 'import', 'namespace', 'open', 'def', 'theorem' AND NOTHING ELSE: no command of the shelf's: FOR A HAND-IN. Each laying: the table of numbers ('.._ren') and one theorem, a field a fact of the dump's own or the kernel's comparison; each contract: ONE APPLICATION.
-/
namespace Go.Proofs
open Go.Shelf
def Tryz.sortD_ren : Go.Shelf.Ren := ⟨fun | 6 => 117 | 15 => 139 | 14 => 138 | 28 => 157 | 29 => 158 | 20 => 149 | 21 => 150 | 22 => 151 | 23 => 152 | 24 => 153 | 25 => 154 | 26 => 155 | 27 => 156 | 46 => 161 | 47 => 162 | 48 => 163 | 49 => 164 | 50 => 165 | 57 => 170 | n => n, fun | 22 => 48 | 24 => 43 | 25 => 126 | 3 => 3 | 39 => 171 | 0 => 0 | 53 => 184 | 55 => 165 | 4 => 4 | 46 => 177 | 45 => 176 | 50 => 181 | 5 => 5 | 9 => 9 | 66 => 187 | 70 => 191 | 76 => 198 | 77 => 199 | n => n, fun | n => n⟩
theorem Tryz.sortD : Go.Proofs.SlLaysF0.n6 Tryz.prog Tryz.sortD_ren := {
  mixed := by kernel_rfl
  f6 := ⟨Tryz.f117.name, by decide, Tryz.func117.trans (congrArg some (by kernel_rfl))⟩
  f14 := ⟨Tryz.f138.name, by decide, Tryz.func138.trans (congrArg some (by kernel_rfl))⟩
  f15 := Tryz.func139.trans (congrArg some (by kernel_rfl))
  f20 := ⟨Tryz.f149.name, by decide, Tryz.func149.trans (congrArg some (by kernel_rfl))⟩
  f21 := ⟨Tryz.f150.name, by decide, Tryz.func150.trans (congrArg some (by kernel_rfl))⟩
  f22 := ⟨Tryz.f151.name, by decide, Tryz.func151.trans (congrArg some (by kernel_rfl))⟩
  f23 := ⟨Tryz.f152.name, by decide, Tryz.func152.trans (congrArg some (by kernel_rfl))⟩
  f24 := ⟨Tryz.f153.name, by decide, Tryz.func153.trans (congrArg some (by kernel_rfl))⟩
  f25 := ⟨Tryz.f154.name, by decide, Tryz.func154.trans (congrArg some (by kernel_rfl))⟩
  f26 := ⟨Tryz.f155.name, by decide, Tryz.func155.trans (congrArg some (by kernel_rfl))⟩
  f27 := ⟨Tryz.f156.name, by decide, Tryz.func156.trans (congrArg some (by kernel_rfl))⟩
  f28 := Tryz.func157.trans (congrArg some (by kernel_rfl))
  f29 := Tryz.func158.trans (congrArg some (by kernel_rfl))
  f46 := ⟨Tryz.f161.name, by decide, Tryz.func161.trans (congrArg some (by kernel_rfl))⟩
  f47 := Tryz.func162.trans (congrArg some (by kernel_rfl))
  f48 := Tryz.func163.trans (congrArg some (by kernel_rfl))
  f49 := ⟨Tryz.f164.name, by decide, Tryz.func164.trans (congrArg some (by kernel_rfl))⟩
  f50 := ⟨Tryz.f165.name, by decide, Tryz.func165.trans (congrArg some (by kernel_rfl))⟩
  f57 := ⟨Tryz.f170.name, by decide, Tryz.func170.trans (congrArg some (by kernel_rfl))⟩
  t0 := Tryz.underlying0
  a0 := Tryz.isAgg0
  z0 := Tryz.sizeOf0
  v0 := Tryz.zeroValue0
  t3 := Tryz.underlying3
  a3 := Tryz.isAgg3
  z3 := Tryz.sizeOf3
  v3 := Tryz.zeroValue3
  t4 := Tryz.underlying4
  a4 := Tryz.isAgg4
  z4 := Tryz.sizeOf4
  v4 := Tryz.zeroValue4
  t5 := Tryz.underlying5
  a5 := Tryz.isAgg5
  z5 := Tryz.sizeOf5
  v5 := Tryz.zeroValue5
  t9 := Tryz.underlying9
  a9 := Tryz.isAgg9
  z9 := Tryz.sizeOf9
  v9 := Tryz.zeroValue9
  t22 := Tryz.underlying48
  a22 := Tryz.isAgg48
  z22 := Tryz.sizeOf48
  v22 := Tryz.zeroValue48
  t25 := Tryz.underlying126
  a25 := Tryz.isAgg126
  z25 := Tryz.sizeOf126
  v25 := Tryz.zeroValue126
  t39 := Tryz.underlying171
  a39 := Tryz.isAgg171
  z39 := Tryz.sizeOf171
  v39 := Tryz.zeroValue171
  t45 := Tryz.underlying176
  a45 := Tryz.isAgg176
  z45 := Tryz.sizeOf176
  v45 := Tryz.zeroValue176
  t46 := Tryz.underlying177
  a46 := Tryz.isAgg177
  z46 := Tryz.sizeOf177
  v46 := Tryz.zeroValue177
  t50 := Tryz.underlying181
  a50 := Tryz.isAgg181
  z50 := Tryz.sizeOf181
  v50 := Tryz.zeroValue181
  t53 := Tryz.underlying184
  a53 := Tryz.isAgg184
  z53 := Tryz.sizeOf184
  v53 := Tryz.zeroValue184
  t55 := Tryz.underlying165
  a55 := Tryz.isAgg165
  z55 := Tryz.sizeOf165
  v55 := Tryz.zeroValue165
  t66 := Tryz.underlying187
  a66 := Tryz.isAgg187
  z66 := Tryz.sizeOf187
  v66 := Tryz.zeroValue187
  t70 := Tryz.underlying191
  a70 := Tryz.isAgg191
  z70 := Tryz.sizeOf191
  v70 := Tryz.zeroValue191
  t76 := Tryz.underlying198
  a76 := Tryz.isAgg198
  z76 := Tryz.sizeOf198
  v76 := Tryz.zeroValue198
  t77 := Tryz.underlying199
  a77 := Tryz.isAgg199
  z77 := Tryz.sizeOf199
  v77 := Tryz.zeroValue199 }
end Go.Proofs
