/- Words and walks that the laws below ask: Stk2, Stk3, Stk4. -/
import Derived.Test.YtjmahmeionakaaaGreatDoorPk16
/- Rows that nobody owned before; owners anew; Open. -/
namespace Go.Proofs.YtjmahmeionakaaaGreatDoor
open Go.RowKit Go.Shelf Go.Maps Go.MapKept
set_option linter.unusedSimpArgs false
set_option linter.unusedVariables false

/-- rows of one's own: the list of them in block sb, they in the blocks fs, all from N on -/
structure FrS (N : Nat) (w : World) (v : Value) (so : List (List Int)) (sb : Nat) (fs : List Nat) : Prop where
  hv : ∃ c, v = .slice (some ⟨sb, 0, none⟩) so.length c
  hsb : N ≤ sb ∧ sb < w.heap.size ∧ sb ∉ fs
  hfs : fs.length = so.length ∧ fs.Nodup
  hrow : ∀ (k : Nat) (s : List Int), so[k]? = some s → ∃ r c', fs[k]? = some r ∧ w.cell? ⟨sb, k, none⟩ = some (.slice (some ⟨r, 0, none⟩) s.length c') ∧ N ≤ r ∧ Row w r s
theorem FrS.but {N : Nat} {w w' : World} {X : Nat → Prop} {v : Value} {so : List (List Int)} {sb : Nat} {fs : List Nat} (h : FrS N w v so sb fs) (hb : But w w' X) (hx : ∀ k, X k → k ≠ sb ∧ k ∉ fs) : FrS N w' v so sb fs :=
  ⟨h.hv, ⟨h.hsb.1, Nat.lt_of_lt_of_le h.hsb.2.1 hb.size, h.hsb.2.2⟩, h.hfs, fun k s hk => by
    obtain ⟨r, c', h1, h2, h3, h4⟩ := h.hrow k s hk
    exact ⟨r, c', h1, but_cell hb h2 (fun hX => (hx _ hX).1 rfl), h3, h4.but hb (fun hX => (hx _ hX).2 (List.mem_of_getElem? h1))⟩⟩
theorem FrS.more {N : Nat} {w w' : World} {v : Value} {so : List (List Int)} {sb : Nat} {fs : List Nat} (h : FrS N w v so sb fs) (hb : Below w.heap.size w w') : FrS N w' v so sb fs := h.but (Below.but (fun _ => False) hb) (fun k hk => hk.elim)
theorem FrS.lt {N : Nat} {w : World} {v : Value} {so : List (List Int)} {sb : Nat} {fs : List Nat} (h : FrS N w v so sb fs) {r : Nat} (hr : r ∈ fs) : N ≤ r ∧ r < w.heap.size := by
  obtain ⟨k, hk, rfl⟩ := List.getElem_of_mem hr
  obtain ⟨s, hs⟩ : ∃ s, so[k]? = some s := ⟨_, List.getElem?_eq_getElem (by rw [← h.hfs.1]; exact hk)⟩
  obtain ⟨r, c', h1, _, h3, h4⟩ := h.hrow k s hs
  rw [List.getElem?_eq_getElem hk] at h1
  cases h1
  exact ⟨h3, h4.lt⟩
theorem UnsR.fr {N : Nat} {w : World} {v : Value} {f : Cf} {L : List (Nat × Nat)} (h : UnsR N w v f.l L) (hp : 0 < f.l.length) : ∃ sb, FrS N w v (unsP f) sb (L.map Prod.fst) := by
  have hlen : L.length = f.l.length := by have := congrArg List.length h.len; simpa using this
  have hne : L ≠ [] := fun e => by rw [e] at hlen; simp at hlen; omega
  obtain ⟨g, cap, rfl, hg, hlt⟩ := h.row.own.form (by rw [hlen]; omega)
  have hun : (unsP f).length = L.length := by unfold unsP; rw [List.length_map, hlen]
  refine ⟨g, ⟨cap, by rw [hun]⟩, ⟨hg, hlt, fun hm => ?_⟩, ⟨by rw [List.length_map, hun], h.asc.imp (fun {a b} (hab : a < b) => Nat.ne_of_lt hab)⟩, fun k s hk => ?_⟩
  · obtain ⟨p, hp, e⟩ := List.mem_map.1 hm
    exact (h.at' p hp).2.2 (by rw [e]; rfl)
  · have hkl : k < L.length := by rw [← hun]; exact (List.getElem?_eq_some_iff.1 hk).1
    have e1 : (L.map Prod.snd)[k]? = some L[k].2 := by rw [List.getElem?_map, List.getElem?_eq_getElem hkl]; rfl
    rw [h.len, List.getElem?_map] at e1
    unfold unsP at hk
    rw [List.getElem?_map] at hk
    cases hb : f.l[k]? with
    | none => rw [hb] at hk; cases hk
    | some b =>
      rw [hb] at hk e1
      simp only [Option.map_some, Option.some.injEq] at hk e1
      subst hk
      obtain ⟨h1, h2, h3⟩ := h.at' L[k] (List.getElem_mem hkl)
      have hc := h.row.own.cells (g := g) rfl _ _ (cellsR_at rowP.len L k 0 L[k] _ (List.getElem?_eq_getElem hkl) rfl)
      rw [Addr.add_lit] at hc
      refine ⟨L[k].1, L[k].2, by rw [List.getElem?_map, List.getElem?_eq_getElem hkl]; rfl, ?_, h2, by rw [e1]; exact h1⟩
      rw [List.length_replicate, e1]
      simpa using hc
/-- new owners: a leg's rows lie elsewhere -/
def retag (o : Own') (i : Lid) (sb : Nat) (fs : List Nat) : Own' := fun k => if k = sb then .sl i else if k ∈ fs then .row i (fs.idxOf k) else match o k with
  | .sl j => if j = i then .none else .sl j
  | .row j m => if j = i then .none else .row j m
  | t => t
theorem retag_old {o : Own'} {i : Lid} {sb : Nat} {fs : List Nat} {k : Nat} (h1 : k ≠ sb) (h2 : k ∉ fs) : retag o i sb fs k = o k ∨ (retag o i sb fs k = .none ∧ (o k = .sl i ∨ ∃ m, o k = .row i m)) := by
  unfold retag
  rw [if_neg h1, if_neg h2]
  cases e : o k with
  | sl j =>
    dsimp only
    by_cases h : j = i
    · rw [if_pos h]; exact .inr ⟨rfl, .inl (by rw [h])⟩
    · rw [if_neg h]; exact .inl rfl
  | row j m =>
    dsimp only
    by_cases h : j = i
    · rw [if_pos h]; exact .inr ⟨rfl, .inr ⟨m, by rw [h]⟩⟩
    · rw [if_neg h]; exact .inl rfl
  | none => exact .inl rfl
  | map => exact .inl rfl
  | obj => exact .inl rfl
  | leg j => exact .inl rfl
theorem FrS.sold {N : Nat} {w : World} {v : Value} {so : List (List Int)} {sb : Nat} {fs : List Nat} (h : FrS N w v so sb fs) {o' : Own'} {i : Lid} (h1 : o' sb = .sl i) (h2 : ∀ k ∈ fs, o' k = .row i (fs.idxOf k)) : SoldAt w o' i v so := by
  obtain ⟨c, e⟩ := h.hv
  refine ⟨sb, c, e, h1, h.hsb.2.1, fun k s hk => ?_⟩
  obtain ⟨r, c', g1, g2, g3, g4⟩ := h.hrow k s hk
  refine ⟨r, c', g2, ?_, g4⟩
  rw [h2 r (List.mem_of_getElem? g1)]
  obtain ⟨hkl, rfl⟩ := List.getElem?_eq_some_iff.1 g1
  rw [h.hfs.2.idxOf_getElem k hkl]
/-- owners may be lost, and new blocks be owned -/
def Ext (w : World) (o o' : Own') : Prop := ∀ k, k < w.heap.size → o' k = o k ∨ o' k = .none
theorem Ext.refl (w : World) (o : Own') : Ext w o o := fun k _ => .inl rfl
theorem Ext.mut {w : World} {o o' : Own'} (h : Ext w o o') {k : Nat} (hk : k < w.heap.size) (hm : MutB o' k) : MutB o k := by
  unfold MutB at *
  rcases h k hk with e | e <;> rw [e] at hm
  · exact hm
  · exact hm.elim
theorem Ext.trans {w w1 : World} {o o1 o2 : Own'} (h : Ext w o o1) (h1 : Ext w1 o1 o2) (hs : w.heap.size ≤ w1.heap.size) : Ext w o o2 := fun k hk => by
  rcases h1 k (Nat.lt_of_lt_of_le hk hs) with e | e
  · rw [e]; exact h k hk
  · exact .inr e
theorem nomap_cell {w : World} {a : Addr} {x : Value} {b : Nat} {es : Array MapEntry} {cl : Nat} (hc : w.cell? a = some x) (hm : w.heap[b]? = some (.map es cl)) : a.block ≠ b := fun e => by
  unfold World.cell? at hc
  rw [e, hm] at hc
  simp at hc
theorem OkL.new {K : Int} {f : Cf} (h0 : 0 ≤ K) (h : RightF f ∧ smallF f ∧ OkCf f ∧ 0 < f.l.length ∧ ∀ b ∈ f.l, 0 < b.l.length) : OkL K ⟨f, unsP f, false⟩ := by
  obtain ⟨h1, h2, h3, h4, h5⟩ := h
  have hz : ∀ l : List Cb, (l.map fun b => List.replicate b.l.length (0 : Int)).map sumI = l.map fun _ => 0 := fun l => by
    rw [List.map_map]
    apply List.map_congr_left
    intro b _
    show sumI (List.replicate b.l.length 0) = 0
    induction b.l.length with
    | zero => rfl
    | succ n ih => rw [List.replicate_succ, sumI, ih]; rfl
  refine ⟨h1, h2, h3, h4, h5, by show (unsP f).length = _; unfold unsP; rw [List.length_map], fun i b s hb hs => ?_, fun s hs x hx => ?_, ?_⟩
  · show s.length = _
    change (unsP f)[i]? = some s at hs
    unfold unsP at hs
    rw [List.getElem?_map, show f.l[i]? = some b from hb] at hs
    cases hs
    rw [List.length_replicate]
  · change s ∈ unsP f at hs
    unfold unsP at hs
    obtain ⟨b, _, rfl⟩ := List.mem_map.1 hs
    rw [(List.mem_replicate.1 hx).2]
    exact Int.le_refl _
  · show totP (unsP f) ≤ K
    unfold totP unsP
    rw [hz]
    have : sumI (f.l.map fun _ => (0 : Int)) = 0 := by
      induction f.l with
      | nil => rfl
      | cons b r ih => rw [List.map_cons, sumI, ih]; rfl
    rw [this]; exact h0
/-- a leg is put into the inventory -/
theorem StkAt.opened {W w7 : World} {R : Nat → Prop} {o : Own'} {B n ml : Nat} {cs : List Cf} {g : Stk} (h : StkAt W R o B n cs g) (hml : W.cell? ⟨B, 1, none⟩ = some (.map (some ml))) {i : Lid} (hi : OkD i) (hg : g i = none) (hn : n ≤ 1000) {q : Lg} {v : Value} {sb : Nat} {fs : List Nat} (hf : FrS W.heap.size w7 v q.so sb fs) (hb : Below W.heap.size W w7) :
    ∃ w9 o', (Instr.mapUpdate lgmT (.map (some ml)) (aggD i) (.pointer (some ⟨w7.heap.size, 0, none⟩))).run Tryz.prog (w7.alloc (.cells #[.string q.f.equip, .slice q.f.A q.f.l.length q.f.c, v, .bool q.cl] legT)) = .ok () w9 ∧ StkAt w9 R o' B (n + 1) cs (updS g i q) ∧ But W w9 (fun k => k = ml) ∧ Ext W o o' ∧ MutB o ml := by
  obtain ⟨a, ha⟩ : ∃ a, a = w7.heap.size := ⟨_, rfl⟩
  obtain ⟨w8, hw8⟩ : ∃ w8, w8 = w7.alloc (.cells #[.string q.f.equip, .slice q.f.A q.f.l.length q.f.c, v, .bool q.cl] legT) := ⟨_, rfl⟩
  have hbC := bel_alloc w7 (.cells #[.string q.f.equip, .slice q.f.A q.f.l.length q.f.c, v, .bool q.cl] legT)
  rw [← hw8] at hbC
  have hb8 := hb.trans (hbC.mono hb.size)
  have h8 := h.more hb8
  have hf8 := hf.more hbC
  have hblk : w8.heap[a]? = some (.cells #[.string q.f.equip, .slice q.f.A q.f.l.length q.f.c, v, .bool q.cl] legT (0, 0)) := by rw [hw8, ha]; exact World.alloc_heap_new w7 _
  have hsb : sb < a := by rw [ha]; exact hf.hsb.2.1
  have hfs : ∀ k ∈ fs, k < a := fun k hk => by rw [ha]; exact (hf.lt hk).2
  have haW : W.heap.size ≤ a := by rw [ha]; exact hb.size
  obtain ⟨mc, ml', nc, c0, c1, r1, r2, r3, r4, hM⟩ := h8.box
  obtain rfl : ml' = ml := by have := bel_cell hb8 hml; rw [c1] at this; simpa using this
  let o' : Own' := fun k => if k = a then .leg i else retag o i sb fs k
  have oa : o' a = .leg i := if_pos rfl
  have oold : ∀ k, k < W.heap.size → o' k = retag o i sb fs k ∧ (retag o i sb fs k = o k ∨ (retag o i sb fs k = .none ∧ (o k = .sl i ∨ ∃ m, o k = .row i m))) := fun k hk => ⟨if_neg (by omega), retag_old (by have := hf.hsb.1; omega) (fun hm => by have := (hf.lt hm).1; omega)⟩
  have hnew : ∀ k, ¬ k < W.heap.size → o k = .none := fun k hk => by
    cases e : o k with
    | none => rfl
    | _ => exact absurd ((h.ro k (by rw [e]; exact fun h => nomatch h)).2) hk
  have hol : ∀ k j, o' k = .leg j → (k = a ∧ j = i) ∨ (o k = .leg j ∧ k ≠ a) := fun k j e => by
    by_cases hk : k = a
    · subst hk; rw [oa] at e; injection e with e; exact .inl ⟨rfl, e.symm⟩
    · right
      refine ⟨?_, hk⟩
      rw [show o' k = retag o i sb fs k from if_neg hk] at e
      unfold retag at e
      split at e
      · cases e
      split at e
      · cases e
      split at e
      · split at e <;> cases e
      · split at e <;> cases e
      · exact e
  have hmlW : ml' < W.heap.size := by
    by_cases e : ml' < W.heap.size
    · exact e
    · rw [hnew _ e] at r4; cases r4
  have oml : o' ml' = .map := by
    rw [(oold ml' hmlW).1]
    rcases (oold ml' hmlW).2 with e | ⟨_, e | ⟨_, e⟩⟩
    · rw [e, r4]
    · rw [r4] at e; cases e
    · rw [r4] at e; cases e
  have osb : o' sb = .sl i := by
    show (if sb = a then _ else retag o i sb fs sb) = _
    rw [if_neg (by omega)]
    unfold retag
    rw [if_pos rfl]
  have ofs : ∀ k ∈ fs, o' k = .row i (fs.idxOf k) := fun k hk => by
    have h1 := hfs k hk
    show (if k = a then _ else retag o i sb fs k) = _
    rw [if_neg (by omega)]
    unfold retag
    have hksb : ¬ k = sb := fun e => hf.hsb.2.2 (by rw [← e]; exact hk)
    rw [if_neg hksb, if_pos hk]
  have hLeg : LegAt w8 o' i a q := ⟨oa, (Array.getElem?_eq_some_iff.1 hblk).1, cell_of_row _ _ 0 _ _ (0, 0) hblk, cell_of_row _ _ 1 _ _ (0, 0) hblk, ⟨v, cell_of_row _ _ 2 _ _ (0, 0) hblk, hf8.sold osb ofs⟩, cell_of_row _ _ 3 _ _ (0, 0) hblk, fun j => frozen_of_row _ _ j _ _ hblk⟩
  have hM' : LegM w8 o' ml' n g := hM.own (fun k j hk hj hh => by
    have hkW : k < W.heap.size := by
      by_cases e : k < W.heap.size
      · exact e
      · rw [hnew k e] at hh; rcases hh with h | h | ⟨_, h⟩ <;> cases h
    have hji : j ≠ i := fun e => by rw [e, hg] at hj; cases hj
    rw [(oold k hkW).1]
    rcases (oold k hkW).2 with e | ⟨_, e | ⟨_, e⟩⟩
    · exact e
    · rcases hh with h | h | ⟨_, h⟩ <;> rw [h] at e <;> first | (simp at e; done) | (simp at e; exact absurd e hji)
    · rcases hh with h | h | ⟨_, h⟩ <;> rw [h] at e <;> first | (simp at e; done) | (simp at e; exact absurd e.1 hji))
  obtain ⟨w9, hrun, hM9, hg9⟩ := hM'.put oml (by unfold maxLen; omega) hi hLeg
  have hbut : But w8 w9 (fun k => k = ml') := ⟨hg9.os, hg9.tape, hg9.output, hg9.size, fun k hk hne => hg9.block k hk (fun e => hne (Option.some.inj e))⟩
  have hmlR : ¬ R ml' := (h.ro ml' (by rw [r4]; exact fun h => nomatch h)).1
  have hBml : B ≠ ml' := fun e => by
    rcases h.own with h1 | h1
    · exact hmlR (e ▸ h1)
    · rw [e, r4] at h1; cases h1
  refine ⟨w9, o', by rw [ha] at hrun; rw [hw8] at hrun; exact hrun, ⟨⟨mc, ml', nc, but_cell hbut c0 hBml, but_cell hbut c1 hBml, r1, r2.same (hbut.block mc r2.lt (fun e => hmlR (e ▸ r1))), r3, oml, hM9⟩, ?_, fun f hf' => ⟨(h8.cfs f hf').1.but hbut (fun k hk => by rw [hk]; exact hmlR), (h8.cfs f hf').2⟩, fun k hk => ?_, fun k hk => Nat.lt_of_lt_of_le (h8.rlt k hk) hbut.size, fun a1 b1 j e1 e2 => ?_, fun a1 j e1 => ?_⟩, (But.of_below hb8).trans hbut (fun k _ h => h), fun k hk => ?_, by unfold MutB; rw [r4]; trivial⟩
  · rcases h.own with h1 | h1
    · exact .inl h1
    · right
      have hBW : B < W.heap.size := (h.ro B (by rw [h1]; exact fun h => nomatch h)).2
      rw [(oold B hBW).1]
      rcases (oold B hBW).2 with e | ⟨_, e | ⟨_, e⟩⟩
      · rw [e, h1]
      · rw [h1] at e; cases e
      · rw [h1] at e; cases e
  · by_cases hkW : k < W.heap.size
    · rw [(oold k hkW).1] at hk
      have h1 : o k ≠ .none := fun e => by
        rcases (oold k hkW).2 with e2 | ⟨e2, _⟩
        · rw [e2, e] at hk; exact hk rfl
        · exact hk e2
      exact ⟨(h.ro k h1).1, Nat.lt_of_lt_of_le hkW (Nat.le_trans hb8.size hbut.size)⟩
    · refine ⟨fun hR => hkW (h.rlt k hR), ?_⟩
      refine Nat.lt_of_lt_of_le ?_ hbut.size
      have hasz : a < w8.heap.size := (Array.getElem?_eq_some_iff.1 hblk).1
      by_cases e1 : k = a
      · rw [e1]; exact hasz
      · rw [show o' k = retag o i sb fs k from if_neg e1] at hk
        unfold retag at hk
        split at hk
        · omega
        split at hk
        · rename_i _ hm
          have := hfs k hm
          omega
        · rw [hnew k hkW] at hk
          exact absurd rfl hk
  · rcases hol a1 j e1 with ⟨x1, x2⟩ | ⟨x1, x2⟩ <;> rcases hol b1 j e2 with ⟨y1, y2⟩ | ⟨y1, y2⟩
    · rw [x1, y1]
    · have := h.liv b1 j y1; rw [x2, hg] at this; cases this
    · have := h.liv a1 j x1; rw [y2, hg] at this; cases this
    · exact h.uniq a1 b1 j x1 y1
  · unfold updS
    split
    · rfl
    · rename_i hji
      rcases hol a1 j e1 with ⟨_, x2⟩ | ⟨x1, _⟩
      · exact absurd x2 hji
      · exact h.liv a1 j x1
  · rw [(oold k hk).1]
    rcases (oold k hk).2 with e | ⟨e, _⟩
    · exact .inl e
    · exact .inr e
/-- the contract of a look-up of a configuration -/
theorem zeroCf (w : World) : (zeroValue cfT).run Tryz.prog w = .ok (aggCf cfZ) w := by kernel_rfl
abbrev cfmT : TypeId := 68
theorem cfg_look {w : World} {b n : Nat} {cs : List Cf} (h : MapS w b n (gC cs)) {s : ByteArray} (hs : s.size ≤ maxLen) : (Instr.lookup cfmT (.map (some b)) (.string s) true).run Tryz.prog w = .ok (.tuple #[aggCf ((findQ cs s).getD cfZ), .bool (findQ cs s).isSome]) w := by
  have h1 := h.look strK Tryz.underlying68 (zeroCf w) (str_key s hs) true
  rw [h1]
  unfold gC
  cases findQ cs s <;> rfl
set_option maxRecDepth 100000 in
set_option maxHeartbeats 8000000 in
theorem lopen_any (R : Nat → Prop) (o : Own') (B n : Nat) (cs : List Cf) (g : Stk) (K : Int) (i : Lid) (s : ByteArray) (w : World) (hS : StkAt w R o B n cs g) (hG : OkG K cs g) (hK : 0 ≤ K) (hi : OkD i) (hs : s.size ≤ maxLen) (hn : n ≤ 1000) :
    Calls Tryz.prog 35 #[.pointer (some ⟨B, 0, none⟩), aggD i, .string s] w fun e w' => e = .returned (.int .i64 (opnE cs g i s)) ∧ (∃ o', StkAt w' R o' B (n + 1) cs (opnG cs g i s) ∧ Ext w o o') ∧ But w w' (MutB o) ∧ OkG K cs (opnG cs g i s) := by
  have hbA := bel_alloc w (.cells #[.string i.car, .int .i64 i.num, .int .i64 i.day, .string i.frm] lidT)
  have hS' := hS.more hbA
  obtain ⟨l0, l1, l2, l3⟩ := lid_new w i
  have HS := Lib.hid hS'
  obtain ⟨mc, ml, nc, c0, c1, _, hmc, _, _, hM⟩ := hS'.box
  have K0 := Lib.hid (isVoid_no B ml _ c1)
  have hmono : ∀ W, StkAt W R o B n cs g → StkAt W R o B (n + 1) cs g := fun W h => by
    obtain ⟨mc, ml, nc, h1, h2, h3, h4, h5, h6, hh, ⟨es, clock, h7, h8, h9, h10⟩, h11⟩ := h.box
    exact { h with box := ⟨mc, ml, nc, h1, h2, h3, h4, h5, h6, hh, ⟨es, clock, h7, h8, Nat.le_succ_of_le h9, h10⟩, h11⟩ }
  unfold opnE opnG
  cases hq : g i with
  | some q =>
    have K1 : Hid (∀ W, StkAt W R o B n cs g → Calls Tryz.prog 56 #[.pointer (some ⟨B, 0, none⟩), aggD i] W fun e w' => ∃ a, e = .returned (.pointer (some ⟨a, 0, none⟩)) ∧ Below W.heap.size W w') := Lib.hid (fun W h => (lfind_any R o B n cs g i W h hi).mono (by
      rintro e w' ⟨⟨p, rfl, hp⟩, hb⟩
      rw [hq] at hp
      obtain ⟨a, rfl, ha⟩ := hp
      exact ⟨a, rfl, hb⟩))
    have HG := Lib.hid hG
    have HM := Lib.hid hmono
    rw [if_pos (show (some q).isSome = true from rfl), if_pos (show (some q).isSome = true from rfl)]
    clear hS hS' hq hM hG hmc hmono
    go_enter Tryz.func35, Tryz.ntmps35
    go_upto_region 1 with fail
    generalize w.alloc (.cells #[.string i.car, .int .i64 i.num, .int .i64 i.day, .string i.frm] lidT) = w5 at *
    go_wp2_with (first
      | (go_at_call 67; refine K0.out.mono ?_; rintro e w4 ⟨rfl, rfl⟩)
      | (go_at_call 56; refine (K1.out _ HS.out).mono ?_; rintro e w6 ⟨a, rfl, hb6⟩))
    go_ret
    exact ⟨rfl, ⟨o, HM.out _ (HS.out.more hb6), Ext.refl _ _⟩, But.of_below (hbA.trans (hb6.mono hbA.size)), HG.out⟩
  | none =>
  rw [if_neg (show ¬ (none : Option Lg).isSome = true by simp), if_neg (show ¬ (none : Option Lg).isSome = true by simp)]
  have K1 : Hid (∀ W, StkAt W R o B n cs g → Calls Tryz.prog 56 #[.pointer (some ⟨B, 0, none⟩), aggD i] W fun e w' => e = .returned (.pointer none) ∧ Below W.heap.size W w') := Lib.hid (fun W h => (lfind_any R o B n cs g i W h hi).mono (by
    rintro e w' ⟨⟨p, rfl, hp⟩, hb⟩
    rw [hq] at hp
    obtain rfl := hp
    exact ⟨rfl, hb⟩))
  have HLK : Hid (∀ W, SW (w.alloc (.cells #[.string i.car, .int .i64 i.num, .int .i64 i.day, .string i.frm] lidT)) W → (Instr.lookup cfmT (.map (some mc)) (.string s) true).run Tryz.prog W = .ok (.tuple #[aggCf ((findQ cs s).getD cfZ), .bool (findQ cs s).isSome]) W) := Lib.hid (fun W h => cfg_look (hmc.more h) hs)
  cases hf : findQ cs s with
  | none =>
    rw [hf] at HLK
    have HG := Lib.hid hG
    have HM := Lib.hid hmono
    rw [if_neg (show ¬ (none : Option Cf).isSome = true by simp)]
    clear hS hS' hq hM hG hmc hmono hf
    go_enter Tryz.func35, Tryz.ntmps35
    go_upto_region 1 with fail
    generalize w.alloc (.cells #[.string i.car, .int .i64 i.num, .int .i64 i.day, .string i.frm] lidT) = w5 at *
    go_upto_region 5 with (first
      | (go_at_call 67; refine K0.out.mono ?_; rintro e w4 ⟨rfl, rfl⟩)
      | (go_at_call 56; refine (K1.out _ HS.out).mono ?_; rintro e w6 ⟨rfl, hb6⟩))
    have hlk : (Instr.lookup cfmT (.map (some mc)) (.string s) true).run Tryz.prog w6 = .ok (.tuple #[.agg #[.string noB, .slice none 0 0], .bool false]) w6 := HLK.out w6 hb6
    have c0 := bel_cell hb6 c0
    go_wp2
    go_ret
    refine ⟨rfl, ⟨o, HM.out _ ((HS.out.more hb6).more (bel_alloc _ _)), Ext.refl _ _⟩, But.of_below ((hbA.trans (hb6.mono hbA.size)).trans ((bel_alloc _ _).mono (hbA.trans (hb6.mono hbA.size)).size)), HG.out⟩
  | some f =>
    rw [hf] at HLK
    have hfm := find_mem hf
    have hcf := hS.cfs f hfm
    have HG2 : Hid (OkG K cs (updS g i ⟨f, unsP f, false⟩)) := Lib.hid (hG.upd (OkL.new hK hcf.2) hfm)
    have hsm := hcf.2.2.1
    have hpos := hcf.2.2.2.2.1
    have KU : Hid (∀ W, StkAt W R o B n cs g → Calls Tryz.prog 70 #[.agg #[.string f.equip, .slice f.A f.l.length f.c]] W fun e w' => ∃ v sb fs, e = .returned v ∧ FrS W.heap.size w' v (unsP f) sb fs ∧ Below W.heap.size W w') := Lib.hid (fun W h => (unsold_any f W (h.cfAt hfm) hsm).mono (by
      rintro e w' ⟨v, L, rfl, hU, hb⟩
      obtain ⟨sb, hfr⟩ := hU.fr hpos
      exact ⟨v, sb, _, rfl, hfr, hb⟩))
    have HOP : Hid (∀ W w7 v sb fs, StkAt W R o B n cs g → W.cell? ⟨B, 1, none⟩ = some (.map (some ml)) → FrS W.heap.size w7 v (unsP f) sb fs → Below W.heap.size W w7 → ∃ w9 o', (Instr.mapUpdate lgmT (.map (some ml)) (aggD i) (.pointer (some ⟨w7.heap.size, 0, none⟩))).run Tryz.prog (w7.alloc (.cells #[.string f.equip, .slice f.A f.l.length f.c, v, .bool false] legT)) = .ok () w9 ∧ StkAt w9 R o' B (n + 1) cs (updS g i ⟨f, unsP f, false⟩) ∧ But W w9 (fun k => k = ml) ∧ Ext W o o' ∧ MutB o ml) := Lib.hid (fun W w7 v sb fs h1 h2 h3 h4 => h1.opened h2 hi hq hn (q := ⟨f, unsP f, false⟩) h3 h4)
    rw [if_pos (show (some f).isSome = true from rfl)]
    have HMB : Hid (∃ es cl, (w.alloc (.cells #[.string i.car, .int .i64 i.num, .int .i64 i.day, .string i.frm] lidT)).heap[ml]? = some (.map es cl)) := Lib.hid (by
      obtain ⟨hh, ⟨es, cl, h, _⟩, _⟩ := hM
      exact ⟨es, cl, h⟩)
    clear hS hS' hq hM hG hmc hmono hf hcf hsm
    go_enter Tryz.func35, Tryz.ntmps35
    go_upto_region 1 with fail
    generalize w.alloc (.cells #[.string i.car, .int .i64 i.num, .int .i64 i.day, .string i.frm] lidT) = w5 at *
    go_upto_region 5 with (first
      | (go_at_call 67; refine K0.out.mono ?_; rintro e w4 ⟨rfl, rfl⟩)
      | (go_at_call 56; refine (K1.out _ HS.out).mono ?_; rintro e w6 ⟨rfl, hb6⟩))
    have hlk : (Instr.lookup cfmT (.map (some mc)) (.string s) true).run Tryz.prog w6 = .ok (.tuple #[.agg #[.string f.equip, .slice f.A f.l.length f.c], .bool true]) w6 := HLK.out w6 hb6
    have hb06 := hbA.trans (hb6.mono hbA.size)
    have hbC := bel_alloc w6 (.cells #[.string f.equip, .slice f.A f.l.length f.c] cfT)
    have hb56 := hb6.trans (hbC.mono hb6.size)
    have hb08 := hb06.trans (hbC.mono hb06.size)
    have hS8 := HS.out.more hb56
    have c08 := bel_cell hb6 c0
    have x0 := (cells_new w6 #[.string f.equip, .slice f.A f.l.length f.c] cfT 0).trans (show _ = some (Value.string f.equip) from rfl)
    have x1 := (cells_new w6 #[.string f.equip, .slice f.A f.l.length f.c] cfT 1).trans (show _ = some (Value.slice f.A f.l.length f.c) from rfl)
    have y0 := bel_cell hb56 l0
    have y1 := bel_cell hb56 l1
    have y2 := bel_cell hb56 l2
    have y3 := bel_cell hb56 l3
    have y4 := bel_cell hb56 c1
    go_upto_region 8 with fail
    clear c08 hlk hbC
    generalize w6.alloc (.cells #[.string f.equip, .slice f.A f.l.length f.c] cfT) = w8 at *
    obtain ⟨es8, cl8, hm8⟩ : ∃ es cl, w8.heap[ml]? = some (.map es cl) := by
      obtain ⟨es, cl, h⟩ := HMB.out
      exact ⟨es, cl, (hb56.block ml (Array.getElem?_eq_some_iff.1 h).1).trans h⟩
    have f0 : ∀ W, But w8 W (fun k => k = ml) → W.cell? ⟨w.heap.size, 0, none⟩ = some (.string i.car) := fun W h => but_cell h y0 (fun e => nomap_cell y0 hm8 e)
    have f1 : ∀ W, But w8 W (fun k => k = ml) → W.cell? ⟨w.heap.size, 1, none⟩ = some (.int .i64 i.num) := fun W h => but_cell h y1 (fun e => nomap_cell y1 hm8 e)
    have f2 : ∀ W, But w8 W (fun k => k = ml) → W.cell? ⟨w.heap.size, 2, none⟩ = some (.int .i64 i.day) := fun W h => but_cell h y2 (fun e => nomap_cell y2 hm8 e)
    have f3 : ∀ W, But w8 W (fun k => k = ml) → W.cell? ⟨w.heap.size, 3, none⟩ = some (.string i.frm) := fun W h => but_cell h y3 (fun e => nomap_cell y3 hm8 e)
    have f4 : ∀ W, But w8 W (fun k => k = ml) → W.cell? ⟨B, 1, none⟩ = some (.map (some ml)) := fun W h => but_cell h y4 (fun e => nomap_cell y4 hm8 e)
    have f5 : ∀ W, But w8 W (fun k => k = ml) → W.cell? ⟨w6.heap.size, 0, none⟩ = some (.string f.equip) := fun W h => but_cell h x0 (fun e => nomap_cell x0 hm8 e)
    have f6 : ∀ W, But w8 W (fun k => k = ml) → W.cell? ⟨w6.heap.size, 1, none⟩ = some (.slice f.A f.l.length f.c) := fun W h => but_cell h x1 (fun e => nomap_cell x1 hm8 e)
    have hSd := hS8.more (Below.refl _ w8).drew
    have hMl : w8.drew.cell? ⟨B, 1, none⟩ = some (.map (some ml)) := y4
    have hS : (fun W => But w8 W (fun k => k = ml)) _ := But.of_below (Below.refl _ _).drew
    refine wp_region_held_drew (S := fun W => But w8 W (fun k => k = ml)) (by kernel_rfl) hS (fun _ => ?_)
    refine wpAnyH_take (i := 0) (v := ?vO0) rfl (by kernel_rfl) (by kernel_rfl) (by kernel_rfl) (fun _ _ _ h => h) (Or.inl ⟨by rfl, ?hyO0⟩) hS ?restO0
    case hyO0 =>
      intro w hSw
      first | (go_simp; done) | (go_simp; with_reducible rfl)
    try simp only [Act.put, List.setIfInBounds_toArray, List.set_cons_zero, List.set_cons_succ]
    refine wpAnyH_take (i := 1) (v := ?vO1) rfl (by kernel_rfl) (by kernel_rfl) (by kernel_rfl) (fun _ _ _ h => h) (Or.inl ⟨by rfl, ?hyO1⟩) hS ?restO1
    case hyO1 =>
      intro w hSw
      first | (go_simp; done) | (go_simp; with_reducible rfl)
    try simp only [Act.put, List.setIfInBounds_toArray, List.set_cons_zero, List.set_cons_succ]
    refine wpAnyH_take (i := 2) (v := ?vO2) rfl (by kernel_rfl) (by kernel_rfl) (by kernel_rfl) (fun _ _ _ h => h) (Or.inl ⟨by rfl, ?hyO2⟩) hS ?restO2
    case hyO2 =>
      intro w hSw
      first | (go_simp; done) | (go_simp; with_reducible rfl)
    try simp only [Act.put, List.setIfInBounds_toArray, List.set_cons_zero, List.set_cons_succ]
    refine wpAnyH_take (i := 3) (v := ?vO3) rfl (by kernel_rfl) (by kernel_rfl) (by kernel_rfl) (fun _ _ _ h => h) (Or.inl ⟨by rfl, ?hyO3⟩) hS ?restO3
    case hyO3 =>
      intro w hSw
      have k0 := f0 w hSw; have k1 := f1 w hSw; have k2 := f2 w hSw; have k3 := f3 w hSw; have k4 := f4 w hSw; have k5 := f5 w hSw; have k6 := f6 w hSw
      first | (go_simp; done) | (go_simp; with_reducible rfl)
    try simp only [Act.put, List.setIfInBounds_toArray, List.set_cons_zero, List.set_cons_succ]
    refine wpAnyH_take (i := 4) (v := ?vO4) rfl (by kernel_rfl) (by kernel_rfl) (by kernel_rfl) (fun _ _ _ h => h) (Or.inl ⟨by rfl, ?hyO4⟩) hS ?restO4
    case hyO4 =>
      intro w hSw
      have k0 := f0 w hSw; have k1 := f1 w hSw; have k2 := f2 w hSw; have k3 := f3 w hSw; have k4 := f4 w hSw; have k5 := f5 w hSw; have k6 := f6 w hSw
      first | (go_simp; done) | (go_simp; with_reducible rfl)
    try simp only [Act.put, List.setIfInBounds_toArray, List.set_cons_zero, List.set_cons_succ]
    refine wpAnyH_take (i := 5) (v := ?vO5) rfl (by kernel_rfl) (by kernel_rfl) (by kernel_rfl) (fun _ _ _ h => h) (Or.inl ⟨by rfl, ?hyO5⟩) hS ?restO5
    case hyO5 =>
      intro w hSw
      have k0 := f0 w hSw; have k1 := f1 w hSw; have k2 := f2 w hSw; have k3 := f3 w hSw; have k4 := f4 w hSw; have k5 := f5 w hSw; have k6 := f6 w hSw
      first | (go_simp; done) | (go_simp; with_reducible rfl)
    try simp only [Act.put, List.setIfInBounds_toArray, List.set_cons_zero, List.set_cons_succ]
    refine wpAnyH_take (i := 6) (v := ?vO6) rfl (by kernel_rfl) (by kernel_rfl) (by kernel_rfl) (fun _ _ _ h => h) (Or.inl ⟨by rfl, ?hyO6⟩) hS ?restO6
    case hyO6 =>
      intro w hSw
      have k0 := f0 w hSw; have k1 := f1 w hSw; have k2 := f2 w hSw; have k3 := f3 w hSw; have k4 := f4 w hSw; have k5 := f5 w hSw; have k6 := f6 w hSw
      first | (go_simp; done) | (go_simp; with_reducible rfl)
    try simp only [Act.put, List.setIfInBounds_toArray, List.set_cons_zero, List.set_cons_succ]
    refine wpAnyH_ready (rs := [7]) (by kernel_rfl) (by simp) ?_
    refine AllReadyH.cons rfl (fun K hK => ?_) AllReadyH.nil
    go_simp
    go_wp2_with (go_at_call 70; refine (KU.out _ hSd).mono ?_; rintro e w7 ⟨v, sb, fs, rfl, hfr, hb7⟩)
    obtain ⟨sc, rfl⟩ := id hfr.hv
    have hS7 := hS
    have hS := hS.trans (But.of_below (X := fun k => k = ml) hb7) (fun _ _ h => h)
    obtain ⟨w9, o', hrun, hS9, hb9, hE9, hmu⟩ := HOP.out _ _ _ sb fs hSd hMl hfr hb7
    refine hK.out _ _ hS (fun _ => ?_)
    clear hK K
    refine wpAnyH_take (i := 8) (v := ?vO8) rfl (by kernel_rfl) (by kernel_rfl) (by kernel_rfl) (fun _ _ _ h => h) (Or.inl ⟨by rfl, ?hyO8⟩) hS ?restO8
    case hyO8 =>
      intro w hSw
      first | (go_simp; done) | (go_simp; with_reducible rfl)
    try simp only [Act.put, List.setIfInBounds_toArray, List.set_cons_zero, List.set_cons_succ]
    refine wpAnyH_ready (rs := [9]) (by kernel_rfl) (by simp) ?_
    refine AllReadyH.cons rfl (fun K hK => ?_) AllReadyH.nil
    go_simp
    have hS := hS.trans (But.of_below (X := fun k => k = ml) (bel_alloc w7 (.cells #[.string f.equip, .slice f.A f.l.length f.c, .slice (some ⟨sb, 0, none⟩) (unsP f).length sc, .bool false] legT))) (fun _ _ h => h)
    refine hK.out _ _ hS (fun _ => ?_)
    clear hK K
    refine wpAnyH_ready (rs := [10]) (by kernel_rfl) (by simp) ?_
    refine AllReadyH.cons rfl (fun K hK => ?_) AllReadyH.nil
    go_simp
    have hS := hS7.trans hb9 (fun _ _ h => h)
    refine hK.out _ _ hS (fun _ => ?_)
    clear hK K
    refine wpAnyH_done (by kernel_rfl) ?_ _
    try simp only [List.getElem_toArray, List.getElem_cons_succ, List.getElem_cons_zero, List.set_cons_zero, List.set_cons_succ]
    go_wp2
    go_ret
    have hsz8 := hb08.size
    refine ⟨rfl, ⟨o', hS9, fun k hk => hE9 k (Nat.lt_of_lt_of_le hk (by simpa using hsz8))⟩, ?_, HG2.out⟩
    exact ((But.of_below (X := MutB o) hb08).trans (But.of_below (X := MutB o) (Below.refl _ w8).drew) (fun _ _ h => h)).trans hb9 (fun k _ e => by rw [e]; exact hmu)
end Go.Proofs.YtjmahmeionakaaaGreatDoor

/- Copies of right configurations; New. -/
namespace Go.Proofs.YtjmahmeionakaaaGreatDoor
open Go.RowKit Go.Shelf Go.Maps Go.MapKept
set_option linter.unusedSimpArgs false
set_option linter.unusedVariables false

/-- what a configuration of an inventory is -/
abbrev GoodF (f : Cf) : Prop := RightF f ∧ smallF f ∧ OkCf f ∧ 0 < f.l.length ∧ ∀ b ∈ f.l, 0 < b.l.length
theorem good_of {l : List Cf} (h : conF l l.length = []) (hs : ∀ f ∈ l, smallF f) (hok : ∀ f ∈ l, OkCf f) : ∀ f ∈ l, GoodF f := by
  intro f hf
  refine ⟨right_of h f hf, hs f hf, hok f hf, ?_⟩
  obtain ⟨m, hm, rfl⟩ := List.getElem_of_mem hf
  have h1 := flat_nil h hm (List.getElem?_eq_getElem hm)
  have h0 := (List.append_eq_nil_iff.1 h1).1
  have h2 : cabF (conW ++ decA m) l[m].l l[m].l.length = [] := (List.append_eq_nil_iff.1 h1).2
  refine ⟨?_, fun b hb => ?_⟩
  · have := pick_none h0 (whC (badN l[m].l.length 4) 4) (by simp [conE])
    have := wh_zero this (by omega)
    unfold badN at this
    simp only [Bool.or_eq_false_iff, decide_eq_false_iff_not] at this
    omega
  · obtain ⟨i, hi, rfl⟩ := List.getElem_of_mem hb
    have h3 := (List.append_eq_nil_iff.1 (flat_nil h2 hi (List.getElem?_eq_getElem hi))).1
    have := pick_none h3 (whC (badN l[m].l[i].l.length 26) 4) (by simp [cabE])
    have := wh_zero this (by omega)
    unfold badN at this
    simp only [Bool.or_eq_false_iff, decide_eq_false_iff_not] at this
    omega
theorem equips_of {l : List Cf} (h : conF l l.length = []) {k : Nat} {f : Cf} (hk : l[k]? = some f) : ∀ g ∈ l.take k, eqS g.equip f.equip = false := by
  obtain ⟨hm, rfl⟩ := List.getElem?_eq_some_iff.1 hk
  have h1 := flat_nil h hm (List.getElem?_eq_getElem hm)
  have h0 := (List.append_eq_nil_iff.1 h1).1
  have := pick_none h0 (whC (anyS ((l.take k).map Cf.equip) l[k].equip) 6) (by simp [conE])
  have := anyS_no (wh_zero this (by omega))
  intro g hg
  exact this g.equip (List.mem_map.2 ⟨g, hg, rfl⟩)
theorem pcb_eq {b b' : Cb} (h : pcb b = pcb b') : ∃ A c, b = { b' with A := A, c := c } := by
  obtain ⟨n, s, o, A, c, l⟩ := b
  obtain ⟨n', s', o', A', c', l'⟩ := b'
  simp only [pcb, Prod.mk.injEq] at h
  obtain ⟨rfl, rfl, rfl, rfl⟩ := h
  exact ⟨A, c, rfl⟩
theorem codesB_pcb {L M : List Cb} (h : L.map pcb = M.map pcb) : codesB L = codesB M := by
  have e : ∀ K : List Cb, codesB K = (K.map pcb).flatMap fun p => codesC p.2.2.2 := fun K => by unfold codesB; rw [List.flatMap_map]; rfl
  rw [e, e, h]
theorem sam_mem {f g : Cf} (h : SamC f g) {b : Cb} (hb : b ∈ f.l) : ∃ b' ∈ g.l, pcb b = pcb b' := by
  have h1 : pcb b ∈ g.l.map pcb := by rw [← h.l]; exact List.mem_map.2 ⟨b, hb, rfl⟩
  obtain ⟨b', h2, h3⟩ := List.mem_map.1 h1
  exact ⟨b', h2, h3.symm⟩
theorem GoodF.sam {f g : Cf} (h : GoodF g) (hs : SamC f g) : GoodF f := by
  obtain ⟨h1, h2, h3, h4, h5⟩ := h
  have hl := sam_len hs.l
  have hmem : ∀ b ∈ f.l, ∃ b' ∈ g.l, ∃ A c, b = { b' with A := A, c := c } := fun b hb => by
    obtain ⟨b', h6, h7⟩ := sam_mem hs hb
    exact ⟨b', h6, pcb_eq h7⟩
  refine ⟨⟨fun b hb => ?_, fun b hb k x hx => ?_, fun i k b x hb hx => ?_⟩, ⟨by rw [hl]; exact h2.1, fun b hb => ?_⟩, ⟨by rw [hs.eq]; exact h3.equip, by rw [hl]; exact h3.len, fun b hb => ?_⟩, by rw [hl]; exact h4, fun b hb => ?_⟩
  · obtain ⟨b', h6, A, c, rfl⟩ := hmem b hb
    exact h1.siz b' h6
  · obtain ⟨b', h6, A, c, rfl⟩ := hmem b hb
    exact h1.bad b' h6 k x hx
  · obtain ⟨b', hb'⟩ : ∃ b', g.l[i]? = some b' := ⟨_, List.getElem?_eq_getElem (by rw [← hl]; exact (List.getElem?_eq_some_iff.1 hb).1)⟩
    obtain ⟨A, c, rfl⟩ := pcb_eq (sam_at hs.l hb hb')
    have h6 : (f.l.take i).map pcb = (g.l.take i).map pcb := by rw [List.map_take, List.map_take, hs.l]
    rw [codesB_pcb h6]
    exact h1.new i k b' x hb' hx
  · obtain ⟨b', h6, A, c, rfl⟩ := hmem b hb
    exact h2.2 b' h6
  · obtain ⟨b', h6, A, c, rfl⟩ := hmem b hb
    exact ⟨(h3.cab b' h6).name, (h3.cab b' h6).len, (h3.cab b' h6).cls⟩
  · obtain ⟨b', h6, A, c, rfl⟩ := hmem b hb
    exact h5 b' h6
/-- the same configurations, wherever they lie -/
structure SamL (cs l : List Cf) : Prop where
  len : cs.length = l.length
  each : ∀ (k : Nat) (f g : Cf), cs[k]? = some f → l[k]? = some g → SamC f g
theorem SamL.mem {cs l : List Cf} (h : SamL cs l) {f : Cf} (hf : f ∈ cs) : ∃ g ∈ l, SamC f g := by
  obtain ⟨k, hk, rfl⟩ := List.getElem_of_mem hf
  have hk2 : k < l.length := by rw [← h.len]; exact hk
  exact ⟨l[k], List.getElem_mem hk2, h.each k _ _ (List.getElem?_eq_getElem hk) (List.getElem?_eq_getElem hk2)⟩
theorem findQ_sam : ∀ {cs l : List Cf} (s : ByteArray), SamL cs l → (findQ cs s = none ∧ findQ l s = none) ∨ ∃ f g, findQ cs s = some f ∧ findQ l s = some g ∧ SamC f g
  | [], [], s, _ => .inl ⟨rfl, rfl⟩
  | [], g :: l, s, h => by have := h.len; simp at this
  | f :: cs, [], s, h => by have := h.len; simp at this
  | f :: cs, g :: l, s, h => by
    have h0 := h.each 0 f g rfl rfl
    have ht : SamL cs l := ⟨by have := h.len; simpa using this, fun k a b ha hb => h.each (k + 1) a b (by simpa using ha) (by simpa using hb)⟩
    unfold findQ
    rw [List.find?_cons, List.find?_cons, h0.eq]
    cases e : eqS g.equip s with
    | true => exact .inr ⟨f, g, rfl, rfl, h0⟩
    | false => exact findQ_sam s ht
theorem gC_snoc {cs : List Cf} {f : Cf} (h : ∀ g ∈ cs, eqS g.equip f.equip = false) : (fun c' => if c' = f.equip then some (aggCf f) else gC cs c') = gC (cs ++ [f]) := by
  funext s
  unfold gC findQ
  rw [List.find?_append]
  by_cases e : s = f.equip
  · subst e
    have h1 : cs.find? (fun g => eqS g.equip f.equip) = none := List.find?_eq_none.2 (fun g hg => by rw [h g hg]; simp)
    rw [if_pos rfl, h1]
    simp [eqS_self]
  · have h2 : eqS f.equip s = false := by
      cases e2 : eqS f.equip s with
      | false => rfl
      | true => exact absurd ((eqS_iff _ _).1 e2).symm e
    rw [if_neg e]
    cases cs.find? (fun g => eqS g.equip s) <;> simp [h2]
theorem RowL.drop {α : Type} {sz : Nat} {enc : α → List Value} {w : World} {b o n c : Nat} {l : List α} (h : RowL sz enc w (.slice (some ⟨b, o, none⟩) n c) l) (k : Nat) (c' : Nat) : RowL sz enc w (.slice (some ⟨b, o + k * sz, none⟩) (l.drop k).length c') (l.drop k) := by
  obtain ⟨A', c2, e, h2⟩ := h
  simp only [Value.slice.injEq] at e
  obtain ⟨rfl, _, _⟩ := e
  refine ⟨_, c', rfl, ?_⟩
  rcases h2 with h2 | ⟨b', o', e, hlt, hc⟩
  · left; rw [h2]; simp
  · cases e
    refine .inr ⟨_, _, rfl, hlt, fun i x j u hi hu => ?_⟩
    rw [List.getElem?_drop] at hi
    have := hc (k + i) x j u hi hu
    rw [Nat.add_mul] at this
    rw [show o + k * sz + i * sz + j = o + (k * sz + i * sz) + j by omega]
    exact this
theorem cfIn_of {w : World} {R : Nat → Prop} {ml : Nat} {es : Array MapEntry} {cl : Nat} (hm : w.heap[ml]? = some (.map es cl)) (hR : ∀ k, k < w.heap.size → k ≠ ml → R k) {f : Cf} (h : CfAt w f) : CfIn R w f := by
  have key : ∀ {α : Type} {enc : α → List Value} {sz : Nat} {A : Option Addr} {n c : Nat} {l : List α}, (∀ x, ∃ u, (enc x)[0]? = some u) → RowL sz enc w (.slice A n c) l → RowIn R sz enc w A l := by
    intro α enc sz A n c l he h
    obtain ⟨A', c', e, h2⟩ := h
    simp only [Value.slice.injEq] at e
    obtain ⟨rfl, _, _⟩ := e
    rcases h2 with h2 | ⟨b, o, e, hlt, hc⟩
    · exact .inl h2
    · cases l with
      | nil => exact .inl rfl
      | cons x r =>
        obtain ⟨u, hu⟩ := he x
        exact .inr ⟨b, o, e, hR b hlt (nomap_cell (hc 0 x 0 u rfl hu) hm), hlt, hc⟩
  exact ⟨key (fun x => ⟨_, rfl⟩) h.1, fun b hb => key (fun x => ⟨_, rfl⟩) (h.2 b hb)⟩
/-- an inventory without legs -/
theorem StkAt.made {w : World} {B mc ml n : Nat} {cs : List Cf} (c0 : w.cell? ⟨B, 0, none⟩ = some (.map (some mc))) (c1 : w.cell? ⟨B, 1, none⟩ = some (.map (some ml))) (hmc : MapS w mc n (gC cs)) (hn : n ≤ 100) (hml : w.heap[ml]? = some (.map #[] 0)) (hne : mc ≠ ml) (hcs : ∀ f ∈ cs, CfAt w f ∧ GoodF f) :
    StkAt w (fun k => k < w.heap.size ∧ k ≠ ml) (fun k => if k = ml then .map else .none) B 0 cs (fun _ => none) := by
  refine ⟨⟨mc, ml, n, c0, c1, ⟨hmc.lt, hne⟩, hmc, hn, if_pos rfl, fun _ => none, ⟨#[], 0, hml, ⟨by simp, stamped_empty 0, by simp⟩, by simp, by simp, by simp⟩, fun i => rfl⟩, .inl ⟨World.block_lt_of_cell? _ _ c0, nomap_cell c0 hml⟩, fun f hf => ⟨cfIn_of hml (fun k h1 h2 => ⟨h1, h2⟩) (hcs f hf).1, (hcs f hf).2⟩, fun k hk => ?_, fun k hk => hk.1, fun a b i h1 => ?_, fun a i h1 => ?_⟩
  · by_cases e : k = ml
    · subst e
      exact ⟨fun h => h.2 rfl, (Array.getElem?_eq_some_iff.1 hml).1⟩
    · rw [if_neg e] at hk; exact absurd rfl hk
  · split at h1 <;> cases h1
  · split at h1 <;> cases h1
end Go.Proofs.YtjmahmeionakaaaGreatDoor

/- New. -/
namespace Go.Proofs.YtjmahmeionakaaaGreatDoor
open Go.RowKit Go.Shelf Go.Maps Go.MapKept
set_option linter.unusedSimpArgs false
set_option linter.unusedVariables false

theorem mk_hint {P : Program} {t k e : TypeId} (hu : P.underlying t = some (.map k e)) (n : Int) (w : World) : (Instr.makeMap t (some (.int .i64 n))).run P w = .ok (.map (some w.heap.size)) (w.alloc (.map #[] 0)) := by
  simp [Instr.makeMap, run_underlying hu, asInt, asIntOf, Result.andThen]
/-- while the configurations are copied -/
structure NewS (w : World) (l : List Cf) (mc ml B k : Nat) (W : World) (cs : List Cf) : Prop where
  sam : SamL cs (l.take k)
  cfg : MapS W mc k (gC cs)
  leg : W.heap[ml]? = some (.map #[] 0)
  c0 : W.cell? ⟨B, 0, none⟩ = some (.map (some mc))
  c1 : W.cell? ⟨B, 1, none⟩ = some (.map (some ml))
  at' : ∀ f ∈ cs, CfAt W f
  bel : Below w.heap.size w W
theorem NewS.step {w : World} {l : List Cf} {mc ml B k : Nat} {W W7 W9 : World} {cs : List Cf} (h : NewS w l mc ml B k W cs) (hne : mc ≠ ml) (hmc : w.heap.size ≤ mc) (hb : Below W.heap.size W W7) {x f : Cf} (hx : l[k]? = some x) (hf : SamC f x) (hcf : CfAt W7 f) (hno : ∀ g ∈ l.take k, eqS g.equip x.equip = false)
    (hst : MapS W9 mc (k + 1) (fun c' => if c' = x.equip then some (aggCf f) else gC cs c')) (hg : W7.grownBy W9 (some mc)) : NewS w l mc ml B (k + 1) W9 (cs ++ [f]) := by
  have hcfg7 := h.cfg.more hb
  have hbut : But W7 W9 (fun k => k = mc) := ⟨hg.os, hg.tape, hg.output, hg.size, fun j hj hn => hg.block j hj (fun e => hn (Option.some.inj e))⟩
  have hle : W.heap.size ≤ W7.heap.size := hb.size
  obtain ⟨es, cl, hmm, _⟩ := id hcfg7
  have hBm : B ≠ mc := nomap_cell (bel_cell hb h.c0) hmm
  have hlen : cs.length = k := by rw [h.sam.len, List.length_take]; have := (List.getElem?_eq_some_iff.1 hx).1; omega
  refine ⟨⟨?_, fun j a b ha hb' => ?_⟩, ?_, ?_, but_cell hbut (bel_cell hb h.c0) hBm, but_cell hbut (bel_cell hb h.c1) hBm, fun g hg' => ?_, ?_⟩
  · rw [List.length_append, hlen, List.length_take, List.length_singleton]
    have := (List.getElem?_eq_some_iff.1 hx).1
    omega
  · rw [List.take_add_one, hx] at hb'
    have hkl : (l.take k).length = k := by rw [List.length_take]; have := (List.getElem?_eq_some_iff.1 hx).1; omega
    by_cases hj : j < k
    · rw [List.getElem?_append_left (by omega)] at ha hb'
      exact h.sam.each j a b ha hb'
    · rw [List.getElem?_append_right (by omega)] at ha hb'
      rw [hlen] at ha
      rw [hkl] at hb'
      cases e : j - k with
      | zero => rw [e] at ha hb'; simp at ha hb'; subst ha hb'; exact hf
      | succ m => rw [e] at ha; simp at ha
  · have e : gC (cs ++ [f]) = _ := (gC_snoc (fun g hg' => by
      obtain ⟨j, hj, rfl⟩ := List.getElem_of_mem hg'
      have hj2 : j < (l.take k).length := by rw [← h.sam.len]; exact hj
      have h1 := h.sam.each j _ _ (List.getElem?_eq_getElem hj) (List.getElem?_eq_getElem hj2)
      rw [h1.eq, hf.eq]
      exact hno _ (List.getElem_mem hj2))).symm
    rw [e, hf.eq]
    exact hst
  · exact (hbut.block ml (by have := (Array.getElem?_eq_some_iff.1 h.leg).1; omega) (fun e => hne e.symm)).trans ((hb.block ml (Array.getElem?_eq_some_iff.1 h.leg).1).trans h.leg)
  · rcases List.mem_append.1 hg' with h1 | h1
    · exact CbL.but ((h.at' g h1).more hb) hcfg7 hbut
    · rw [List.mem_singleton.1 h1]; exact CbL.but hcf hcfg7 hbut
  · exact (h.bel.trans (hb.mono h.bel.size)).trans (hbut.below (Nat.le_trans h.bel.size hle) (fun j hj e => by omega))
/-- what New hands back -/
def NewR (w : World) (l : List Cf) (e : Ending) (w' : World) : Prop :=
  (conF l l.length ≠ [] → ∃ v, e = .returned (.tuple #[.pointer none, v]) ∧ FltL w' v (conF l l.length)) ∧
  (conF l l.length = [] → ∃ B cs R o, e = .returned (.tuple #[.pointer (some ⟨B, 0, none⟩), .slice none 0 0]) ∧ StkAt w' R o B 0 cs (fun _ => none) ∧ SamL cs l ∧ ∀ k, o k ≠ .none → w.heap.size ≤ k)
set_option maxRecDepth 100000 in
set_option maxHeartbeats 8000000 in
theorem new_any (A : Option Addr) (c : Nat) (l : List Cf) (w : World) (hv : CfL w (.slice A l.length c) l) (hs : SmallP l) (hok : ∀ f ∈ l, OkCf f) (hcap : l.length ≤ c) :
    Calls Tryz.prog 12 #[.slice A l.length c] w fun e w' => NewR w l e w' ∧ Below w.heap.size w w' := by
  have hmm := @run_makeMap Tryz.prog
  have hmh := fun (n : Int) (w : World) => mk_hint Tryz.underlying68 n w
  have K1 := Lib.hid (check_any A c l w hv hs.1 hok)
  unfold NewR
  by_cases h0 : conF l l.length = []
  · have HGD : Hid (∀ f ∈ l, GoodF f) := Lib.hid (good_of h0 hs.2 hok)
    have HEQ : Hid (∀ k f, l[k]? = some f → ∀ g ∈ l.take k, eqS g.equip f.equip = false) := Lib.hid (fun k f hk => equips_of h0 hk)
    rw [h0] at K1 ⊢
    have HV := Lib.hid hv
    have HS := Lib.hid hs
    have HOK := Lib.hid hok
    obtain ⟨n, hn⟩ : ∃ n, n = l.length := ⟨_, rfl⟩
    have HN := Lib.hid hn
    rw [← hn] at K1 hcap ⊢
    clear hv hs hok h0 hn
    go_enter Tryz.func12, Tryz.ntmps12
    go_upto_region 2 with (go_at_call 41; refine K1.out.mono ?_; rintro e w4 ⟨v, rfl, hO, hb4⟩)
    obtain ⟨A4, c4, rfl, _⟩ := hO.rowL rtF.len
    dsimp only [List.length]
    clear hO
    go_upto_region 5 with fail
    have hn4 : ((w4.alloc (.map #[] 0)).alloc (.map #[] 0)).heap.size = w4.heap.size + 1 + 1 := by simp
    have hbx := bel_alloc ((w4.alloc (.map #[] 0)).alloc (.map #[] 0)) (.cells #[.map (some w4.heap.size), .map (some (w4.heap.size + 1))] stkT)
    have hba := bel_alloc w4 (.map #[] 0)
    have hbb := bel_alloc (w4.alloc (.map #[] 0)) (.map #[] 0)
    have HST : Hid (∃ cs, NewS w l w4.heap.size (w4.heap.size + 1) (w4.heap.size + 1 + 1) 0 (((w4.alloc (.map #[] 0)).alloc (.map #[] 0)).alloc (.cells #[.map (some w4.heap.size), .map (some (w4.heap.size + 1))] stkT)) cs) := Lib.hid (by
      refine ⟨[], ⟨rfl, fun k f g h => by simp at h⟩, ((MapK.made w4 _ _ _).more hbb).more hbx, ?_, ?_, ?_, fun f hf => by simp at hf, ?_⟩
      · have h1 : ((w4.alloc (.map #[] 0)).alloc (.map #[] 0)).heap[w4.heap.size + 1]? = some (.map #[] 0) := by
          have := (MapKept.heap_alloc (w4.alloc (.map #[] 0)) (.map #[] 0)).1
          rwa [World.size_alloc] at this
        exact (hbx.block _ (Array.getElem?_eq_some_iff.1 h1).1).trans h1
      · have := (cells_new ((w4.alloc (.map #[] 0)).alloc (.map #[] 0)) #[.map (some w4.heap.size), .map (some (w4.heap.size + 1))] stkT 0).trans (show _ = some (Value.map (some w4.heap.size)) from rfl)
        rwa [hn4] at this
      · have := (cells_new ((w4.alloc (.map #[] 0)).alloc (.map #[] 0)) #[.map (some w4.heap.size), .map (some (w4.heap.size + 1))] stkT 1).trans (show _ = some (Value.map (some (w4.heap.size + 1))) from rfl)
        rwa [hn4] at this
      · exact hb4.trans ((hba.trans ((hbb.trans (hbx.mono hbb.size)).mono hba.size)).mono hb4.size))
    have HMC : Hid (w.heap.size ≤ w4.heap.size) := Lib.hid hb4.size
    clear hn4 hbx hba hbb hmm hb4 hmh
    generalize w4.heap.size = mc at *
    go_wp2
    go_loopw [22] (fun vi wr => ∃ k : Nat, k ≤ n ∧ vi = .int .i64 k ∧ Hid (∃ cs, NewS w l mc (mc + 1) (mc + 1 + 1) k wr cs)) (fun vi _ => n - (intOf vi).toNat)
    case atStart => exact ⟨0, Nat.zero_le _, rfl, HST⟩
    case round =>
      obtain ⟨k, hk, rfl, HH⟩ := hrel
      by_cases hlt : k < n
      · obtain ⟨cs, hN⟩ := HH.out
        obtain ⟨x, hx⟩ : ∃ x, l[k]? = some x := ⟨_, List.getElem?_eq_getElem (by have := HN.out; omega)⟩
        have hv' := (HV.out.more hN.bel)
        obtain ⟨b0, o0, eA, _, hcc⟩ := row_get hv'.1 hx
        have z0 := hcc 0 _ rfl
        have z1 := hcc 1 _ rfl
        rw [Nat.add_zero] at z0
        rw [eA]
        have hk8 : k < 8 := by have := HN.out; have := HS.out.1; omega
        have i1 : (0 : Int) ≤ (k : Int) := by omega
        have i2 : (k : Int) < (n : Int) := by omega
        have i3 : (k : Int) ≤ (n : Int) := by omega
        have i4 : (n : Int) ≤ (c : Int) := by omega
        have i5 : (k : Int) ≤ (c : Int) := by omega
        have i6 : ¬ c = k := by omega
        have hbA := bel_alloc wr (.cells #[.string x.equip, .slice x.A x.l.length x.c] cfT)
        have x0 := (cells_new wr #[.string x.equip, .slice x.A x.l.length x.c] cfT 0).trans (show _ = some (Value.string x.equip) from rfl)
        have x1 := (cells_new wr #[.string x.equip, .slice x.A x.l.length x.c] cfT 1).trans (show _ = some (Value.slice x.A x.l.length x.c) from rfl)
        have y0 := bel_cell hbA hN.c0
        obtain ⟨es8, cl8, hm8, _⟩ := id (hN.cfg.more hbA)
        have KF : Hid (∀ (W : World) (c' : Nat), Below wr.heap.size wr W → Calls Tryz.prog 42 #[.slice (some ⟨b0, o0 + k * 2, none⟩) (n - k) c', .string x.equip] W fun e w' => ∃ f, e = .returned (.tuple #[.agg #[.string f.equip, .slice f.A f.l.length f.c], .bool true]) ∧ CfAt w' f ∧ SamC f x ∧ Below W.heap.size W w') := Lib.hid (fun W c' hW => by
          have hvW := hv'.more hW
          have hl : (l.drop k).length = n - k := by rw [List.length_drop, HN.out]
          have h1 := find_any (some ⟨b0, o0 + k * 2, none⟩) c' (l.drop k) x.equip W ⟨by
            have := hvW.1
            rw [eA] at this
            exact this.drop k c', fun f hf => hvW.2 f (List.mem_of_mem_drop hf)⟩ (by rw [hl]; have := HS.out.1; have := HN.out; omega) (fun f hf => HOK.out f (List.mem_of_mem_drop hf))
          rw [hl] at h1
          have hq : findQ (l.drop k) x.equip = some x := by
            obtain ⟨hkl, rfl⟩ := List.getElem?_eq_some_iff.1 hx
            rw [List.drop_eq_getElem_cons hkl]
            unfold findQ
            rw [List.find?_cons, eqS_self]
          refine h1.mono ?_
          rintro e w' ⟨⟨f, rfl, h2, h3⟩, hb⟩
          rw [hq] at h3 ⊢
          exact ⟨f, rfl, h2, h3, hb⟩)
        have HPUT : Hid (∀ (W : World) (f : Cf), Below (wr.alloc (.cells #[.string x.equip, .slice x.A x.l.length x.c] cfT)).heap.size (wr.alloc (.cells #[.string x.equip, .slice x.A x.l.length x.c] cfT)) W → CfAt W f → SamC f x → ∃ w9, (Instr.mapUpdate cfmT (.map (some mc)) (.string x.equip) (.agg #[.string f.equip, .slice f.A f.l.length f.c])).run Tryz.prog W = .ok () w9 ∧ (∃ cs, NewS w l mc (mc + 1) (mc + 1 + 1) (k + 1) w9 cs) ∧ But W w9 (fun k => k = mc)) := Lib.hid (fun W f hW hcf hsm => by
          have hWr := hbA.trans (hW.mono hbA.size)
          have hmem := List.mem_of_getElem? hx
          obtain ⟨w9, hrun, hst, hg⟩ := (hN.cfg.more hWr).store (val := aggCf f) strK (fun c c' h => str_inj c c' h) Tryz.underlying68 (by unfold maxLen; omega) (str_key x.equip (HOK.out x hmem).equip)
          exact ⟨w9, hrun, ⟨_, hN.step (by omega) HMC.out hWr hx hsm hcf (HEQ.out k x hx) hst hg⟩, ⟨hg.os, hg.tape, hg.output, hg.size, fun j hj hn => hg.block j hj (fun e => hn (Option.some.inj e))⟩⟩)
        have HBA : Hid (Below wr.heap.size wr (wr.alloc (.cells #[.string x.equip, .slice x.A x.l.length x.c] cfT))) := Lib.hid hbA
        clear hcc hx hN hv' HH hbA
        go_upto_region 8 with fail
        clear z0 z1
        generalize wr.alloc (.cells #[.string x.equip, .slice x.A x.l.length x.c] cfT) = w8 at *
        have hDr : Below w8.heap.size w8 w8.drew := (Below.refl _ w8).drew
        have f0 : ∀ W, But w8 W (fun k => k = mc) → W.cell? ⟨mc + 1 + 1, 0, none⟩ = some (.map (some mc)) := fun W h => but_cell h y0 (fun e => nomap_cell y0 hm8 e)
        have f1 : ∀ W, But w8 W (fun k => k = mc) → W.cell? ⟨wr.heap.size, 0, none⟩ = some (.string x.equip) := fun W h => but_cell h x0 (fun e => nomap_cell x0 hm8 e)
        have f2 : ∀ W, But w8 W (fun k => k = mc) → W.cell? ⟨wr.heap.size, 1, none⟩ = some (.slice x.A x.l.length x.c) := fun W h => but_cell h x1 (fun e => nomap_cell x1 hm8 e)
        have hS : (fun W => But w8 W (fun k => k = mc)) _ := But.of_below (Below.refl _ _).drew
        refine wp_region_held_drew (S := fun W => But w8 W (fun k => k = mc)) (by kernel_rfl) hS (fun _ => ?_)
        refine wpAnyH_take (i := 0) (v := ?vE0) rfl (by kernel_rfl) (by kernel_rfl) (by kernel_rfl) (fun _ _ _ h => h) (Or.inl ⟨by rfl, ?hyE0⟩) hS ?restE0
        case hyE0 =>
          intro w hSw
          first | (go_simp; done) | (go_simp; with_reducible rfl)
        try simp only [Act.put, List.setIfInBounds_toArray, List.set_cons_zero, List.set_cons_succ]
        refine wpAnyH_take (i := 1) (v := ?vE1) rfl (by kernel_rfl) (by kernel_rfl) (by kernel_rfl) (fun _ _ _ h => h) (Or.inl ⟨by rfl, ?hyE1⟩) hS ?restE1
        case hyE1 =>
          intro w hSw
          first | (go_simp; done) | (go_simp; with_reducible rfl)
        try simp only [Act.put, List.setIfInBounds_toArray, List.set_cons_zero, List.set_cons_succ]
        refine wpAnyH_take (i := 2) (v := ?vE2) rfl (by kernel_rfl) (by kernel_rfl) (by kernel_rfl) (fun _ _ _ h => h) (Or.inl ⟨by rfl, ?hyE2⟩) hS ?restE2
        case hyE2 =>
          intro w hSw
          first | (go_simp; done) | (go_simp; with_reducible rfl)
        try simp only [Act.put, List.setIfInBounds_toArray, List.set_cons_zero, List.set_cons_succ]
        refine wpAnyH_take (i := 3) (v := ?vE3) rfl (by kernel_rfl) (by kernel_rfl) (by kernel_rfl) (fun _ _ _ h => h) (Or.inl ⟨by rfl, ?hyE3⟩) hS ?restE3
        case hyE3 =>
          intro w hSw
          have k0 := f0 w hSw; have k1 := f1 w hSw; have k2 := f2 w hSw
          first | (go_simp; done) | (go_simp; with_reducible rfl)
        try simp only [Act.put, List.setIfInBounds_toArray, List.set_cons_zero, List.set_cons_succ]
        refine wpAnyH_take (i := 4) (v := ?vE4) rfl (by kernel_rfl) (by kernel_rfl) (by kernel_rfl) (fun _ _ _ h => h) (Or.inl ⟨by rfl, ?hyE4⟩) hS ?restE4
        case hyE4 =>
          intro w hSw
          first | (go_simp; done) | (go_simp; with_reducible rfl)
        try simp only [Act.put, List.setIfInBounds_toArray, List.set_cons_zero, List.set_cons_succ]
        refine wpAnyH_take (i := 5) (v := ?vE5) rfl (by kernel_rfl) (by kernel_rfl) (by kernel_rfl) (fun _ _ _ h => h) (Or.inl ⟨by rfl, ?hyE5⟩) hS ?restE5
        case hyE5 =>
          intro w hSw
          have k0 := f0 w hSw; have k1 := f1 w hSw; have k2 := f2 w hSw
          first | (go_simp; done) | (go_simp; with_reducible rfl)
        try simp only [Act.put, List.setIfInBounds_toArray, List.set_cons_zero, List.set_cons_succ]
        refine wpAnyH_take (i := 6) (v := ?vE6) rfl (by kernel_rfl) (by kernel_rfl) (by kernel_rfl) (fun _ _ _ h => h) (Or.inl ⟨by rfl, ?hyE6⟩) hS ?restE6
        case hyE6 =>
          intro w hSw
          first | (go_simp; done) | (go_simp; with_reducible rfl)
        try simp only [Act.put, List.setIfInBounds_toArray, List.set_cons_zero, List.set_cons_succ]
        refine wpAnyH_take (i := 7) (v := ?vE7) rfl (by kernel_rfl) (by kernel_rfl) (by kernel_rfl) (fun _ _ _ h => h) (Or.inl ⟨by rfl, ?hyE7⟩) hS ?restE7
        case hyE7 =>
          intro w hSw
          first | (go_simp; done) | (go_simp; with_reducible rfl)
        try simp only [Act.put, List.setIfInBounds_toArray, List.set_cons_zero, List.set_cons_succ]
        refine wpAnyH_take (i := 8) (v := ?vE8) rfl (by kernel_rfl) (by kernel_rfl) (by kernel_rfl) (fun _ _ _ h => h) (Or.inl ⟨by rfl, ?hyE8⟩) hS ?restE8
        case hyE8 =>
          intro w hSw
          first | (go_simp; done) | (go_simp; with_reducible rfl)
        try simp only [Act.put, List.setIfInBounds_toArray, List.set_cons_zero, List.set_cons_succ]
        refine wpAnyH_take (i := 9) (v := ?vE9) rfl (by kernel_rfl) (by kernel_rfl) (by kernel_rfl) (fun _ _ _ h => h) (Or.inl ⟨by rfl, ?hyE9⟩) hS ?restE9
        case hyE9 =>
          intro w hSw
          first | (go_simp; done) | (go_simp; with_reducible rfl)
        try simp only [Act.put, List.setIfInBounds_toArray, List.set_cons_zero, List.set_cons_succ]
        refine wpAnyH_take (i := 10) (v := ?vE10) rfl (by kernel_rfl) (by kernel_rfl) (by kernel_rfl) (fun _ _ _ h => h) (Or.inl ⟨by rfl, ?hyE10⟩) hS ?restE10
        case hyE10 =>
          intro w hSw
          have k0 := f0 w hSw; have k1 := f1 w hSw; have k2 := f2 w hSw
          first | (go_simp; done) | (go_simp; with_reducible rfl)
        try simp only [Act.put, List.setIfInBounds_toArray, List.set_cons_zero, List.set_cons_succ]
        refine wpAnyH_ready (rs := [11]) (by kernel_rfl) (by simp) ?_
        refine AllReadyH.cons rfl (fun K hK => ?_) AllReadyH.nil
        go_simp
        go_wp2_with (go_at_call 42; refine (KF.out _ _ (HBA.out.trans (hDr.mono HBA.out.size))).mono ?_; rintro e w7 ⟨f, rfl, hcf, hsm, hb7⟩)
        have hS7 := hS.trans (But.of_below (X := fun k => k = mc) hb7) (fun _ _ h => h)
        have hS := hS7
        obtain ⟨w9, hrun, hN9, hb9⟩ := HPUT.out w7 f (hDr.trans (Below.mono hb7 hDr.size)) hcf hsm
        refine hK.out _ _ hS (fun _ => ?_)
        clear hK K
        refine wpAnyH_take (i := 12) (v := ?vE12) rfl (by kernel_rfl) (by kernel_rfl) (by kernel_rfl) (fun _ _ _ h => h) (Or.inl ⟨by rfl, ?hyE12⟩) hS ?restE12
        case hyE12 =>
          intro w hSw
          first | (go_simp; done) | (go_simp; with_reducible rfl)
        try simp only [Act.put, List.setIfInBounds_toArray, List.set_cons_zero, List.set_cons_succ]
        refine wpAnyH_take (i := 13) (v := ?vE13) rfl (by kernel_rfl) (by kernel_rfl) (by kernel_rfl) (fun _ _ _ h => h) (Or.inl ⟨by rfl, ?hyE13⟩) hS ?restE13
        case hyE13 =>
          intro w hSw
          first | (go_simp; done) | (go_simp; with_reducible rfl)
        try simp only [Act.put, List.setIfInBounds_toArray, List.set_cons_zero, List.set_cons_succ]
        refine wpAnyH_take (i := 14) (v := ?vE14) rfl (by kernel_rfl) (by kernel_rfl) (by kernel_rfl) (fun _ _ _ h => h) (Or.inl ⟨by rfl, ?hyE14⟩) hS ?restE14
        case hyE14 =>
          intro w hSw
          first | (go_simp; done) | (go_simp; with_reducible rfl)
        try simp only [Act.put, List.setIfInBounds_toArray, List.set_cons_zero, List.set_cons_succ]
        refine wpAnyH_ready (rs := [15]) (by kernel_rfl) (by simp) ?_
        refine AllReadyH.cons rfl (fun K hK => ?_) AllReadyH.nil
        go_simp
        have hS := hS7.trans hb9 (fun _ _ h => h)
        refine hK.out _ _ hS (fun _ => ?_)
        clear hK K
        refine wpAnyH_done (by kernel_rfl) ?_ _
        try simp only [List.getElem_toArray, List.getElem_cons_succ, List.getElem_cons_zero, List.set_cons_zero, List.set_cons_succ]
        have HZ := Lib.hid hN9
        clear hS hS7 hb9 hN9
        go_wp2
        go_roundw
        case rel => exact ⟨k + 1, by omega, by go_num, HZ⟩
        case measure => simp [intOf]; omega
      · obtain rfl : k = n := by omega
        go_wp2
        refine bodyPost_ret (results_tmp2 rfl _ _ _) rfl ?_
        obtain ⟨cs, hN⟩ := HH.out
        have hsam : SamL cs l := by
          have := hN.sam
          rw [HN.out, List.take_length] at this
          exact this
        refine ⟨⟨fun h => absurd rfl h, fun _ => ⟨mc + 1 + 1, cs, _, _, rfl, StkAt.made hN.c0 hN.c1 hN.cfg (by have := HN.out; have := HS.out.1; omega) hN.leg (by omega) (fun f hf => ⟨hN.at' f hf, ?_⟩), hsam, fun j hj => ?_⟩⟩, hN.bel⟩
        · obtain ⟨g, hg, h1⟩ := hsam.mem hf
          exact (HGD.out g hg).sam h1
        · by_cases e : j = mc + 1
          · have := HMC.out; omega
          · rw [if_neg e] at hj; exact absurd rfl hj
  · have HL : Hid (0 < (conF l l.length).length) := Lib.hid (by
      cases e : conF l l.length with
      | nil => exact absurd e h0
      | cons x r => simp)
    have HH0 := Lib.hid h0
    have HLE : Hid ((conF l l.length).length ≤ 755 * l.length) := Lib.hid (conF_le l hok l.length)
    clear hv hs hok h0
    generalize conF l l.length = L at *
    go_enter Tryz.func12, Tryz.ntmps12
    go_upto_region 2 with (go_at_call 41; refine K1.out.mono ?_; rintro e w4 ⟨v, rfl, hO, hb4⟩)
    obtain ⟨A4, c4, rfl, hr⟩ := id (hO.rowL rtF.len)
    have HO := Lib.hid (hO.rowL rtF.len)
    have i1 : (0 : Int) < (L.length : Int) := by have := HL.out; omega
    clear hO hr
    go_wp2
    refine bodyPost_ret (results_tmp2 rfl _ _ _) rfl ?_
    exact ⟨⟨fun _ => ⟨_, rfl, HO.out⟩, fun h => absurd h HH0.out⟩, hb4⟩
end Go.Proofs.YtjmahmeionakaaaGreatDoor
