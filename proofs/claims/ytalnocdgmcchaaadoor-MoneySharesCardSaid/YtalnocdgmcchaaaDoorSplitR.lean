/- The reference's division into shares, walked. -/
import Derived.Test.YtalnocdgmcchaaaDoorSplitW
namespace Go.Proofs.YtalnocdgmcchaaaDoor
open Go.RowKit Go.Sort
set_option linter.unusedSimpArgs false
set_option linter.unusedVariables false

/-- a row of numbers that the call appends to -/
structure IOwn (B : Nat) (w : World) (v : Value) (l : List Int) : Prop where
  own : w.ownsRow B 3 1 v l.length (l.map (.int .i64))
  base : B ≤ w.heap.size
theorem IOwn.nil {B : Nat} {w : World} (hB : B ≤ w.heap.size) : IOwn B w (.slice none 0 0) [] := ⟨World.ownsRow_nil _ _ _ _, hB⟩
theorem IOwn.alloc {B : Nat} {w : World} {v : Value} {l : List Int} (h : IOwn B w v l) (o : Obj) : IOwn B (w.alloc o) v l := ⟨own_more h.own ((Below.refl _ _).alloc (Nat.le_refl _) _), by have := h.base; simp; omega⟩
theorem IOwn.drewN {B : Nat} {w : World} {v : Value} {l : List Int} (h : IOwn B w v l) (n : Nat) : IOwn B (w.drewN n) v l := ⟨h.own, h.base⟩
/-- a row keeps its cells where another row of the call's has grown -/
theorem IOwn.other {B : Nat} {w w' : World} {v : Value} {l : List Int} (h : IOwn B w v l) {row : Option Nat} (hg : w.grownBy w' row) (hne : v.ownBlock = none ∨ v.ownBlock ≠ row) : IOwn B w' v l :=
  ⟨h.own.kept hg hne, Nat.le_trans h.base hg.size⟩
theorem wpList_iapp {P : Program} (ht : P.underlying 22 = some (.slice 3)) (hinf : (P.info? 3).map (fun i => (i.zero, i.size, i.bytes)) = some (some (.int .i64 0), 1, 8)) {B : Nat} {w : World} {ops : Array Oper} {rest : List Oper} {o : Oper} {a : Act} {Q : Exit → Act → World → Prop} (hgd : o.guard = none) (s x : Operand)
    (ho : o.op = .call { callee := .builtin .append, args := #[s, x], argTypes := #[22, 22] }) (v : Value) (l : List Int) (hs : a.eval s = v) (h0 : IOwn B w v l)
    (b : Nat) (new : Int) (c : Nat) (hx : a.eval x = .slice (some ⟨b, 0, none⟩) 1 c) (hb : w.heap[b]? = some (.cells #[.int .i64 new] 3 (0, 0)))
    (hlim : l.length ≤ 1000000000)
    (h : ∀ v' w', IOwn B w' v' (l ++ [new]) → w.grownBy w' v.ownBlock → (v'.ownBlock = v.ownBlock ∨ v'.ownBlock = some w.heap.size) → wpList P ops Q rest (a.put o.dst v') w') : wpList P ops Q (o :: rest) a w := by
  obtain ⟨i, hi, hz, hz1, hz2⟩ := info_parts hinf
  refine wpList_append_lies w hgd s x 22 ho B 3 i (.int .i64 0) 1 8 ht hi hz hz1 hz2 rfl (by omega) v l.length (l.map (.int .i64)) hs h0.own ⟨b, 0, none⟩ 1 c [.int .i64 new] hx
    rfl ?_ (by intro u hu; simp at hu; subst hu; rfl) (by omega) (by unfold maxLen; omega) (by omega) h0.base w.heap.size rfl ?_
  · intro j u hu
    match j, hu with
    | 0, hu =>
      simp at hu
      subst hu
      have hadd : (⟨b, 0, none⟩ : Addr).add 0 = ⟨b, 0, none⟩ := by simp [Addr.add]
      rw [hadd, cell_of_row w b 0 #[.int .i64 new] 3 (0, 0) hb]
      rfl
  · intro g cap w' hown hgrow hor _
    refine h _ _ ⟨?_, Nat.le_trans h0.base hgrow.size⟩ hgrow ?_
    · rw [List.map_append, List.length_append]
      exact hown
    · rcases hor with hor | hor
      · exact Or.inl hor.symm
      · subst hor; exact Or.inr rfl

/-- two rows that are appended to, apart from one another, and nothing else turned -/
structure Two (w : World) (v u : Value) (l m : List Int) (W : World) : Prop where
  hv : IOwn w.heap.size W v l
  hu : IOwn w.heap.size W u m
  apart : v.ownBlock = none ∨ u.ownBlock = none ∨ v.ownBlock ≠ u.ownBlock
  bel : Below w.heap.size w W
section
variable {w W W' : World} {v u v' : Value} {l m : List Int}
theorem Two.alloc (h : Two w v u l m W) (o : Obj) : Two w v u l m (W.alloc o) := ⟨h.hv.alloc o, h.hu.alloc o, h.apart, h.bel.alloc h.bel.size o⟩
theorem Two.drewN (h : Two w v u l m W) (n : Nat) : Two w v u l m (W.drewN n) := ⟨h.hv.drewN n, h.hu.drewN n, h.apart, below_drewN h.bel n⟩
theorem ne_heap {B : Nat} {e : TypeId} {W : World} {u : Value} {n : Nat} {xs : List Value} (h : W.ownsRow B e 1 u n xs) : u.ownBlock = none ∨ u.ownBlock ≠ some W.heap.size := by
  cases hu : u.ownBlock with
  | none => exact Or.inl rfl
  | some k => exact Or.inr (fun e => by have := (h.lt k hu).2; simp at e; omega)
theorem Two.left (h : Two w v u l m W) (x : Int) (hg : W.grownBy W' v.ownBlock) (hv : IOwn w.heap.size W' v' (l ++ [x])) (ho : v'.ownBlock = v.ownBlock ∨ v'.ownBlock = some W.heap.size) : Two w v' u (l ++ [x]) m W' := by
  refine ⟨hv, h.hu.other hg ?_, ?_, h.bel.grown hg h.bel.size (fun k hk => (h.hv.own.lt k hk).1)⟩
  · cases hu : u.ownBlock with
    | none => exact Or.inl rfl
    | some k =>
      refine Or.inr fun e => ?_
      rcases h.apart with h1 | h1 | h1
      · rw [h1] at e; cases e
      · rw [hu] at h1; cases h1
      · exact h1 (by rw [hu]; exact e.symm)
  · rcases ho with ho | ho
    · rw [ho]; exact h.apart
    · rcases ne_heap h.hu.own with h1 | h1
      · exact Or.inr (Or.inl h1)
      · exact Or.inr (Or.inr (by rw [ho]; exact fun e => h1 e.symm))
theorem Two.right {u' : Value} (h : Two w v u l m W) (x : Int) (hg : W.grownBy W' u.ownBlock) (hv : IOwn w.heap.size W' u' (m ++ [x])) (ho : u'.ownBlock = u.ownBlock ∨ u'.ownBlock = some W.heap.size) : Two w v u' l (m ++ [x]) W' := by
  refine ⟨h.hv.other hg ?_, hv, ?_, h.bel.grown hg h.bel.size (fun k hk => (h.hu.own.lt k hk).1)⟩
  · cases hu : v.ownBlock with
    | none => exact Or.inl rfl
    | some k =>
      refine Or.inr fun e => ?_
      rcases h.apart with h1 | h1 | h1
      · rw [hu] at h1; cases h1
      · rw [h1] at e; cases e
      · exact h1 (by rw [hu]; exact e)
  · rcases ho with ho | ho
    · rw [ho]; exact h.apart
    · rcases ne_heap h.hv.own with h1 | h1
      · exact Or.inl h1
      · exact Or.inr (Or.inr (by rw [ho]; exact h1))
end
theorem IOwn.row {B : Nat} {W : World} {v : Value} {l : List Int} (h : IOwn B W v l) (hp : 0 < l.length) : ∃ g cap, v = .slice (some ⟨g, 0, none⟩) l.length cap ∧ B ≤ g ∧ v.ownBlock = some g ∧ Row W g l := by
  obtain ⟨g, cap, rfl, hB, hlt⟩ := h.own.form hp
  refine ⟨g, cap, rfl, hB, rfl, fun j hj => ?_, fun j hj => h.own.frozenAt j, hlt⟩
  rw [h.own.cellAt j (by omega), List.getElem?_map, List.getElem?_eq_getElem hj]
  rfl

/-! ### the order exists, and its next place is the first of the greatest that remain -/
theorem ordered_ex (rem : List Int) (hp : 0 < rem.length) : ∃ ord, Ordered rem ord := by
  haveI : Inhabited (Fin rem.length) := ⟨⟨0, hp⟩⟩
  have h := insertion_stable (ordF rem rem.length) 0 rem.length (idF rem.length) (Nat.zero_le _) (by rw [idF_size]; omega) (fun k m _ h2 h3 => by
    rw [idF_get _ _ h3, idF_get _ _ (show k < rem.length by omega)]; exact h2)
  exact ⟨_, ordered_of rem _ h.1 h.2⟩
theorem first_one {l : List Int} {i j : Nat} (h1 : First l i) (h2 : First l j) : i = j := by
  obtain ⟨hi, a1, a2⟩ := h1
  obtain ⟨hj, b1, b2⟩ := h2
  rcases Nat.lt_trichotomy i j with h | h | h
  · have := b2 i h; have := a1 j hj; omega
  · exact h
  · have := a2 j h; have := b1 i hi; omega
/-- what remains behind j places -/
def leftF (a : Int) (ws : List Int) (ord : List Nat) (j i : Nat) : Int := if i ∈ ord.take j then -1 else (rN a ws i : Int)
theorem first_next {a : Int} {ws : List Int} {ord : List Nat} (O : Ordered (remL a ws) ord) (j : Nat) (hj : j < ord.length) : First (tab (leftF a ws ord j) ws.length) ord[j] := by
  have hlen : ord.length = ws.length := by rw [O.len]; simp [remL, tab_len]
  have hjw : ord[j] < ws.length := by have := ordered_lt O j hj; simpa [remL, tab_len] using this
  have hrem : ∀ i, i < ws.length → (remL a ws).getD i 0 = (rN a ws i : Int) := fun i hi => by
    rw [List.getD_eq_getElem?_getD, List.getElem?_eq_getElem (by simp [remL, tab_len]; exact hi)]
    simp [remL, tab_get]
  have hnd := ordered_nodup O
  have hnot : ord[j] ∉ ord.take j := fun hm => by
    obtain ⟨q, hq, hqe⟩ := List.mem_iff_getElem.1 hm
    rw [List.length_take] at hq
    rw [List.getElem_take] at hqe
    exact List.pairwise_iff_getElem.1 hnd q j (by omega) hj (by omega) hqe
  have key : ∀ i, i < ws.length → i ≠ ord[j] → leftF a ws ord j i < (rN a ws ord[j] : Int) ∨ (leftF a ws ord j i = (rN a ws ord[j] : Int) ∧ ord[j] < i) := fun i hi hne => by
    unfold leftF
    by_cases hm : i ∈ ord.take j
    · rw [if_pos hm]; omega
    · rw [if_neg hm]
      have hi2 : i ∈ ord := O.perm.mem_iff.2 (List.mem_range.2 (by simpa [remL, tab_len] using hi))
      obtain ⟨q, hq, rfl⟩ := List.mem_iff_getElem.1 hi2
      have hqj : j < q := by
        rcases Nat.lt_trichotomy q j with h | h | h
        · exfalso; exact hm (List.mem_iff_getElem.2 ⟨q, by rw [List.length_take]; omega, by rw [List.getElem_take]⟩)
        · subst h; exact absurd rfl hne
        · exact h
      have h := ordered_ahead O j q hqj hq
      unfold Ahead at h
      rw [hrem _ hi, hrem _ hjw] at h
      exact h
  refine ⟨by rw [tab_len]; exact hjw, fun i hi => ?_, fun i hi => ?_⟩
  · rw [tab_len] at hi
    rw [tab_get, tab_get]
    have e : leftF a ws ord j ord[j] = (rN a ws ord[j] : Int) := by unfold leftF; rw [if_neg hnot]
    rw [e]
    by_cases hne : i = ord[j]
    · subst hne; rw [e]; omega
    · have := key i hi hne; omega
  · rw [tab_get, tab_get]
    have e : leftF a ws ord j ord[j] = (rN a ws ord[j] : Int) := by unfold leftF; rw [if_neg hnot]
    rw [e]
    have := key i (by omega) (by omega)
    omega
theorem tab_snoc (f : Nat → Int) (k : Nat) : tab f (k + 1) = tab f k ++ [f k] := by simp [tab, List.range_succ]
end Go.Proofs.YtalnocdgmcchaaaDoor
