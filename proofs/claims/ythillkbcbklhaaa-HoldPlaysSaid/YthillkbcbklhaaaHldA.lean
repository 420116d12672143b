/- Identifiers of legs: plain data, and as they lie in memory; lists that nobody changes. -/
import Derived.Test.YthillkbcbklhaaaKitB
import Derived.Maps.Own
import Derived.DeepKeys4
import Derived.WideKeyPair
namespace Go.Proofs.Ythillkbcbklhaaa
open Go.RowKit Go.Shelf Go.Maps Go.MapKept
set_option linter.unusedSimpArgs false
set_option linter.unusedVariables false

abbrev noB : ByteArray := ⟨#[]⟩
/-- texts are equal -/
def eqS (s t : ByteArray) : Bool := s.toList == t.toList
theorem eqS_iff (s t : ByteArray) : eqS s t = true ↔ s = t := by
  unfold eqS
  rw [beq_iff_eq, ByteArray.toList_eq, ByteArray.toList_eq]
  constructor
  · intro h
    have := congrArg List.toArray h
    simp at this
    cases s; cases t
    simpa using this
  · rintro rfl; rfl
theorem eqS_self (s : ByteArray) : eqS s s = true := (eqS_iff s s).2 rfl
/-- the identifier of a leg -/
structure Lid where
  car : ByteArray
  num : Int
  day : Int
  frm : ByteArray
def eqD (a b : Lid) : Bool := eqS a.car b.car && decide (a.num = b.num) && decide (a.day = b.day) && eqS a.frm b.frm
theorem eqD_iff (a b : Lid) : eqD a b = true ↔ a = b := by
  obtain ⟨a1, a2, a3, a4⟩ := a
  obtain ⟨b1, b2, b3, b4⟩ := b
  unfold eqD
  simp only [Bool.and_eq_true, eqS_iff, decide_eq_true_eq, Lid.mk.injEq]
  constructor
  · rintro ⟨⟨⟨h1, h2⟩, h3⟩, h4⟩
    exact ⟨h1, h2, h3, h4⟩
  · rintro ⟨h1, h2, h3, h4⟩
    exact ⟨⟨⟨h1, h2⟩, h3⟩, h4⟩
instance : DecidableEq Lid := fun a b => if h : eqD a b = true then isTrue ((eqD_iff a b).1 h) else isFalse fun e => h ((eqD_iff a b).2 e)
theorem eqD_no (a b : Lid) : eqD a b = false ↔ a ≠ b := by
  rw [← Bool.not_eq_true]
  exact not_congr (eqD_iff a b)
def twiP : List Lid → Bool
  | [] => false
  | i :: r => r.any (eqD i) || twiP r
abbrev lidT : TypeId := 51
def encD (x : Lid) : List Value := [.string x.car, .int .i64 x.num, .int .i64 x.day, .string x.frm]
abbrev aggD (x : Lid) : Value := .agg #[.string x.car, .int .i64 x.num, .int .i64 x.day, .string x.frm]
abbrev LidL (w : World) (v : Value) (l : List Lid) : Prop := RowL 4 encD w v l
structure OkD (x : Lid) : Prop where
  car : x.car.size ≤ maxLen
  n0 : -9223372036854775808 ≤ x.num
  n1 : x.num ≤ 9223372036854775807
  d0 : -9223372036854775808 ≤ x.day
  d1 : x.day ≤ 9223372036854775807
  frm : x.frm.size ≤ maxLen
theorem aggD_inj (a b : Lid) (h : aggD a = aggD b) : a = b := by
  obtain ⟨a1, a2, a3, a4⟩ := a
  obtain ⟨b1, b2, b3, b4⟩ := b
  simp only [Value.agg.injEq, Array.mk.injEq, List.cons.injEq, Value.string.injEq, Value.int.injEq, true_and, and_true] at h
  obtain ⟨rfl, rfl, rfl, rfl⟩ := h
  rfl
theorem rowD : RT Try.prog 29 lidT 4 encD where
  ht := Try.underlying29
  info := ⟨.agg #[.string noB, .int .i64 0, .int .i64 0, .string noB], 48, by kernel_rfl, rfl, by omega⟩
  len x := rfl
  one x u hu := by simp [encD] at hu; rcases hu with rfl | rfl | rfl | rfl <;> rfl
  pos := by omega
/-- what has changed: of the blocks that were there, those that X names -/
theorem Below.but {w w' : World} (X : Nat → Prop) (h : Below w.heap.size w w') : But w w' X := But.of_below h
theorem but_cell {w w' : World} {X : Nat → Prop} (h : But w w' X) {a : Addr} {x : Value} (hc : w.cell? a = some x) (hn : ¬ X a.block) : w'.cell? a = some x :=
  (World.cell?_of_block (h.block a.block (World.block_lt_of_cell? _ _ hc) hn)).trans hc
theorem but_froz {w w' : World} {X : Nat → Prop} (h : But w w' X) {a : Addr} (hlt : a.block < w.heap.size) (hn : ¬ X a.block) : w'.frozen? a = w.frozen? a := by
  unfold World.frozen?
  rw [h.block _ hlt hn]
def RowIn (R : Nat → Prop) {α : Type} (sz : Nat) (enc : α → List Value) (w : World) (A : Option Addr) (l : List α) : Prop :=
  l = [] ∨ ∃ b o, A = some ⟨b, o, Option.none⟩ ∧ R b ∧ b < w.heap.size ∧ ∀ i x j u, l[i]? = some x → (enc x)[j]? = some u → w.cell? ⟨b, o + i * sz + j, Option.none⟩ = some u
theorem RowIn.rowL {R : Nat → Prop} {α : Type} {sz : Nat} {enc : α → List Value} {w : World} {A : Option Addr} {l : List α} (h : RowIn R sz enc w A l) (c : Nat) : RowL sz enc w (.slice A l.length c) l := by
  refine ⟨A, c, rfl, ?_⟩
  rcases h with h | ⟨b, o, e, _, h1, h2⟩
  · exact .inl h
  · exact .inr ⟨b, o, e, h1, h2⟩
theorem RowIn.but {R X : Nat → Prop} {α : Type} {sz : Nat} {enc : α → List Value} {w w' : World} {A : Option Addr} {l : List α} (h : RowIn R sz enc w A l) (hb : But w w' X) (hx : ∀ k, X k → ¬ R k) : RowIn R sz enc w' A l := by
  rcases h with h | ⟨b, o, e, h0, h1, h2⟩
  · exact .inl h
  · exact .inr ⟨b, o, e, h0, Nat.lt_of_lt_of_le h1 hb.size, fun i x j u hi hu => but_cell hb (h2 i x j u hi hu) (fun hX => hx _ hX h0)⟩
theorem RowIn.imp {R R' : Nat → Prop} {α : Type} {sz : Nat} {enc : α → List Value} {w : World} {A : Option Addr} {l : List α} (h : RowIn R sz enc w A l) (hR : ∀ k, R k → R' k) : RowIn R' sz enc w A l := by
  rcases h with h | ⟨b, o, e, h0, h1⟩
  · exact .inl h
  · exact .inr ⟨b, o, e, hR b h0, h1⟩
theorem RowIn.more {R : Nat → Prop} {α : Type} {sz : Nat} {enc : α → List Value} {w w' : World} {A : Option Addr} {l : List α} (h : RowIn R sz enc w A l) (hb : Below w.heap.size w w') : RowIn R sz enc w' A l := by
  rcases h with h | ⟨b, o, e, h0, h1, h2⟩
  · exact .inl h
  · exact .inr ⟨b, o, e, h0, Nat.lt_of_lt_of_le h1 hb.size, fun i x j u hi hu => (bel_cell hb (h2 i x j u hi hu))⟩
theorem RowIn.one {α : Type} {sz : Nat} {enc : α → List Value} (w : World) (l : List α) (e : TypeId) (hlen : ∀ x, (enc x).length = sz) {cs : Array Value} (hcs : cs = (cellsR enc l).toArray) : RowIn (fun b => b = w.heap.size) sz enc (w.alloc (.cells cs e)) (some ⟨w.heap.size, 0, none⟩) l := by
  subst hcs
  refine .inr ⟨w.heap.size, 0, rfl, rfl, by simp, fun i x j u hi hu => ?_⟩
  rw [cells_new, List.getElem?_toArray, Nat.zero_add]
  exact cellsR_at hlen l i j x u hi hu
theorem laidOutS : laidOutB Try.prog = true := by kernel_rfl
theorem rowLid : lidT < Try.prog.types.size := by decide +kernel
theorem lidK : Keyed Try.prog lidT := Keyed.of_law (deep_law_laid laidOutS (m := 2) (by omega) rowLid (by kernel_rfl) (by kernel_rfl))
theorem key_lid (c : Lid) (h : OkD c) : ∃ kl, keyOf Try.prog lidT (aggD c) = some kl := by
  have hu := Try.underlying51
  have hs := Try.underlying9
  have hi := Try.underlying3
  have hkt : Try.prog.keyType lidT = true := by kernel_rfl
  have hc : Try.prog.cellsOf lidT = 4 := by kernel_rfl
  have hc1 : Try.prog.cellsOf 9 = 1 := by kernel_rfl
  have hc2 : Try.prog.cellsOf 3 = 1 := by kernel_rfl
  have w1 : (Lit.int .i64 c.num).wf = true := WalkArith.wf_i64 (by have := h.n0; have := h.n1; omega)
  have w2 : (Lit.int .i64 c.day).wf = true := WalkArith.wf_i64 (by have := h.d0; have := h.d1; omega)
  obtain ⟨m, hm⟩ : ∃ m, Try.prog.types.size = m + 1 := ⟨Try.prog.types.size - 1, by decide +kernel⟩
  refine ⟨.string (keyBytes [.string c.car.data.toList, .int .i64 c.num, .int .i64 c.day, .string c.frm.data.toList]), ?_⟩
  unfold keyOf aggD
  simp only [hu]
  rw [if_pos (by simp [hkt, Value.formed, hu, hc]), hm]
  unfold Program.keyLits
  simp only [hu, Value.cells]
  rw [if_pos (by simp [hc])]
  simp [List.mapM_cons, Program.keyLits, hs, hi, hc1, hc2, h.car, h.frm, w1, w2]
theorem lid_new (w : World) (i : Lid) : (w.alloc (.cells #[.string i.car, .int .i64 i.num, .int .i64 i.day, .string i.frm] lidT)).cell? ⟨w.heap.size, 0, none⟩ = some (.string i.car) ∧ (w.alloc (.cells #[.string i.car, .int .i64 i.num, .int .i64 i.day, .string i.frm] lidT)).cell? ⟨w.heap.size, 1, none⟩ = some (.int .i64 i.num) ∧ (w.alloc (.cells #[.string i.car, .int .i64 i.num, .int .i64 i.day, .string i.frm] lidT)).cell? ⟨w.heap.size, 2, none⟩ = some (.int .i64 i.day) ∧ (w.alloc (.cells #[.string i.car, .int .i64 i.num, .int .i64 i.day, .string i.frm] lidT)).cell? ⟨w.heap.size, 3, none⟩ = some (.string i.frm) :=
  ⟨(cells_new w _ lidT 0).trans rfl, (cells_new w _ lidT 1).trans rfl, (cells_new w _ lidT 2).trans rfl, (cells_new w _ lidT 3).trans rfl⟩
set_option maxRecDepth 100000 in
set_option maxHeartbeats 2000000 in
theorem run_eqD (x y : Lid) (w : World) : (binOp .eql lidT (aggD x) (aggD y)).run Try.prog w = .ok (.bool (eqD x y)) w := by
  have e : eqD x y = ((x.car.toList == y.car.toList) && (x.num == y.num) && (x.day == y.day) && (x.frm.toList == y.frm.toList)) := rfl
  rw [e]
  cases h1 : (x.car.toList == y.car.toList) <;> cases h2 : (x.num == y.num) <;> cases h3 : (x.day == y.day) <;> cases h4 : (x.frm.toList == y.frm.toList) <;> go_simp
theorem twi_iff : ∀ l : List Lid, twiP l = true ↔ ¬ l.Nodup
  | [] => by simp [twiP]
  | i :: r => by
    rw [twiP, List.nodup_cons, Bool.or_eq_true, twi_iff r, List.any_eq_true]
    have : (∃ x, x ∈ r ∧ eqD i x = true) ↔ i ∈ r := ⟨fun ⟨x, hx, e⟩ => by rw [(eqD_iff _ _).1 e]; exact hx, fun h => ⟨i, h, (eqD_iff _ _).2 rfl⟩⟩
    rw [this]
    constructor
    · rintro (h | h) ⟨h1, h2⟩
      · exact h1 h
      · exact h h2
    · intro h
      by_cases e : i ∈ r
      · exact .inl e
      · exact .inr (fun h2 => h ⟨e, h2⟩)
end Go.Proofs.Ythillkbcbklhaaa
