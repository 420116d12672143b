/- Rows that nobody owned before; owners anew; Open. -/
import Derived.Test.YtkghpapbifijcaaGreatDoorStk1
namespace Go.Proofs.YtkghpapbifijcaaGreatDoor
open Go.RowKit Go.Shelf Go.Maps Go.MapKept
set_option linter.unusedSimpArgs false
set_option linter.unusedVariables false

/-- rows of one's own: the list of them in block sb, they in the blocks fs, all from N on -/
structure FrS (N : Nat) (w : World) (v : Value) (so : List (List Int)) (sb : Nat) (fs : List Nat) : Prop where
  hv : ∃ c, v = .slice (some ⟨sb, 0, none⟩) so.length c
  hsb : N ≤ sb ∧ sb < w.heap.size ∧ sb ∉ fs
  hfs : fs.length = so.length ∧ fs.Nodup
  hrow : ∀ (k : Nat) (s : List Int), so[k]? = some s → ∃ r c', fs[k]? = some r ∧ w.cell? ⟨sb, k, none⟩ = some (.slice (some ⟨r, 0, none⟩) s.length c') ∧ N ≤ r ∧ Row w r s
theorem FrS.but {N : Nat} {w w' : World} {X : Nat → Prop} {v : Value} {so : List (List Int)} {sb : Nat} {fs : List Nat} (h : FrS N w v so sb fs) (hb : But w w' X) (hx : ∀ k, X k → k ≠ sb ∧ k ∉ fs) : FrS N w' v so sb fs :=
  ⟨h.hv, ⟨h.hsb.1, Nat.lt_of_lt_of_le h.hsb.2.1 hb.size, h.hsb.2.2⟩, h.hfs, fun k s hk => by
    obtain ⟨r, c', h1, h2, h3, h4⟩ := h.hrow k s hk
    exact ⟨r, c', h1, but_cell hb h2 (fun hX => (hx _ hX).1 rfl), h3, h4.but hb (fun hX => (hx _ hX).2 (List.mem_of_getElem? h1))⟩⟩
theorem FrS.more {N : Nat} {w w' : World} {v : Value} {so : List (List Int)} {sb : Nat} {fs : List Nat} (h : FrS N w v so sb fs) (hb : Below w.heap.size w w') : FrS N w' v so sb fs := h.but (Below.but (fun _ => False) hb) (fun k hk => hk.elim)
theorem FrS.lt {N : Nat} {w : World} {v : Value} {so : List (List Int)} {sb : Nat} {fs : List Nat} (h : FrS N w v so sb fs) {r : Nat} (hr : r ∈ fs) : N ≤ r ∧ r < w.heap.size := by
  obtain ⟨k, hk, rfl⟩ := List.getElem_of_mem hr
  obtain ⟨s, hs⟩ : ∃ s, so[k]? = some s := ⟨_, List.getElem?_eq_getElem (by rw [← h.hfs.1]; exact hk)⟩
  obtain ⟨r, c', h1, _, h3, h4⟩ := h.hrow k s hs
  rw [List.getElem?_eq_getElem hk] at h1
  cases h1
  exact ⟨h3, h4.lt⟩
theorem UnsR.fr {N : Nat} {w : World} {v : Value} {f : Cf} {L : List (Nat × Nat)} (h : UnsR N w v f.l L) (hp : 0 < f.l.length) : ∃ sb, FrS N w v (unsP f) sb (L.map Prod.fst) := by
  have hlen : L.length = f.l.length := by have := congrArg List.length h.len; simpa using this
  have hne : L ≠ [] := fun e => by rw [e] at hlen; simp at hlen; omega
  obtain ⟨g, cap, rfl, hg, hlt⟩ := h.row.own.form (by rw [hlen]; omega)
  have hun : (unsP f).length = L.length := by unfold unsP; rw [List.length_map, hlen]
  refine ⟨g, ⟨cap, by rw [hun]⟩, ⟨hg, hlt, fun hm => ?_⟩, ⟨by rw [List.length_map, hun], h.asc.imp (fun {a b} (hab : a < b) => Nat.ne_of_lt hab)⟩, fun k s hk => ?_⟩
  · obtain ⟨p, hp, e⟩ := List.mem_map.1 hm
    exact (h.at' p hp).2.2 (by rw [e]; rfl)
  · have hkl : k < L.length := by rw [← hun]; exact (List.getElem?_eq_some_iff.1 hk).1
    have e1 : (L.map Prod.snd)[k]? = some L[k].2 := by rw [List.getElem?_map, List.getElem?_eq_getElem hkl]; rfl
    rw [h.len, List.getElem?_map] at e1
    unfold unsP at hk
    rw [List.getElem?_map] at hk
    cases hb : f.l[k]? with
    | none => rw [hb] at hk; cases hk
    | some b =>
      rw [hb] at hk e1
      simp only [Option.map_some, Option.some.injEq] at hk e1
      subst hk
      obtain ⟨h1, h2, h3⟩ := h.at' L[k] (List.getElem_mem hkl)
      have hc := h.row.own.cells (g := g) rfl _ _ (cellsR_at rowP.len L k 0 L[k] _ (List.getElem?_eq_getElem hkl) rfl)
      rw [Addr.add_lit] at hc
      refine ⟨L[k].1, L[k].2, by rw [List.getElem?_map, List.getElem?_eq_getElem hkl]; rfl, ?_, h2, by rw [e1]; exact h1⟩
      rw [List.length_replicate, e1]
      simpa using hc
/-- new owners: a leg's rows lie elsewhere -/
def retag (o : Own') (i : Lid) (sb : Nat) (fs : List Nat) : Own' := fun k => if k = sb then .sl i else if k ∈ fs then .row i (fs.idxOf k) else match o k with
  | .sl j => if j = i then .none else .sl j
  | .row j m => if j = i then .none else .row j m
  | t => t
theorem retag_old {o : Own'} {i : Lid} {sb : Nat} {fs : List Nat} {k : Nat} (h1 : k ≠ sb) (h2 : k ∉ fs) : retag o i sb fs k = o k ∨ (retag o i sb fs k = .none ∧ (o k = .sl i ∨ ∃ m, o k = .row i m)) := by
  unfold retag
  rw [if_neg h1, if_neg h2]
  cases e : o k with
  | sl j =>
    dsimp only
    by_cases h : j = i
    · rw [if_pos h]; exact .inr ⟨rfl, .inl (by rw [h])⟩
    · rw [if_neg h]; exact .inl rfl
  | row j m =>
    dsimp only
    by_cases h : j = i
    · rw [if_pos h]; exact .inr ⟨rfl, .inr ⟨m, by rw [h]⟩⟩
    · rw [if_neg h]; exact .inl rfl
  | none => exact .inl rfl
  | map => exact .inl rfl
  | obj => exact .inl rfl
  | leg j => exact .inl rfl
theorem FrS.sold {N : Nat} {w : World} {v : Value} {so : List (List Int)} {sb : Nat} {fs : List Nat} (h : FrS N w v so sb fs) {o' : Own'} {i : Lid} (h1 : o' sb = .sl i) (h2 : ∀ k ∈ fs, o' k = .row i (fs.idxOf k)) : SoldAt w o' i v so := by
  obtain ⟨c, e⟩ := h.hv
  refine ⟨sb, c, e, h1, h.hsb.2.1, fun k s hk => ?_⟩
  obtain ⟨r, c', g1, g2, g3, g4⟩ := h.hrow k s hk
  refine ⟨r, c', g2, ?_, g4⟩
  rw [h2 r (List.mem_of_getElem? g1)]
  obtain ⟨hkl, rfl⟩ := List.getElem?_eq_some_iff.1 g1
  rw [h.hfs.2.idxOf_getElem k hkl]
/-- owners may be lost, and new blocks be owned -/
def Ext (w : World) (o o' : Own') : Prop := ∀ k, k < w.heap.size → o' k = o k ∨ o' k = .none
theorem Ext.refl (w : World) (o : Own') : Ext w o o := fun k _ => .inl rfl
theorem Ext.mut {w : World} {o o' : Own'} (h : Ext w o o') {k : Nat} (hk : k < w.heap.size) (hm : MutB o' k) : MutB o k := by
  unfold MutB at *
  rcases h k hk with e | e <;> rw [e] at hm
  · exact hm
  · exact hm.elim
theorem Ext.trans {w w1 : World} {o o1 o2 : Own'} (h : Ext w o o1) (h1 : Ext w1 o1 o2) (hs : w.heap.size ≤ w1.heap.size) : Ext w o o2 := fun k hk => by
  rcases h1 k (Nat.lt_of_lt_of_le hk hs) with e | e
  · rw [e]; exact h k hk
  · exact .inr e
theorem nomap_cell {w : World} {a : Addr} {x : Value} {b : Nat} {es : Array MapEntry} {cl : Nat} (hc : w.cell? a = some x) (hm : w.heap[b]? = some (.map es cl)) : a.block ≠ b := fun e => by
  unfold World.cell? at hc
  rw [e, hm] at hc
  simp at hc
theorem OkL.new {K : Int} {f : Cf} (h0 : 0 ≤ K) (h : RightF f ∧ smallF f ∧ OkCf f ∧ 0 < f.l.length ∧ ∀ b ∈ f.l, 0 < b.l.length) : OkL K ⟨f, unsP f, false⟩ := by
  obtain ⟨h1, h2, h3, h4, h5⟩ := h
  have hz : ∀ l : List Cb, (l.map fun b => List.replicate b.l.length (0 : Int)).map sumI = l.map fun _ => 0 := fun l => by
    rw [List.map_map]
    apply List.map_congr_left
    intro b _
    show sumI (List.replicate b.l.length 0) = 0
    induction b.l.length with
    | zero => rfl
    | succ n ih => rw [List.replicate_succ, sumI, ih]; rfl
  refine ⟨h1, h2, h3, h4, h5, by show (unsP f).length = _; unfold unsP; rw [List.length_map], fun i b s hb hs => ?_, fun s hs x hx => ?_, ?_⟩
  · show s.length = _
    change (unsP f)[i]? = some s at hs
    unfold unsP at hs
    rw [List.getElem?_map, show f.l[i]? = some b from hb] at hs
    cases hs
    rw [List.length_replicate]
  · change s ∈ unsP f at hs
    unfold unsP at hs
    obtain ⟨b, _, rfl⟩ := List.mem_map.1 hs
    rw [(List.mem_replicate.1 hx).2]
    exact Int.le_refl _
  · show totP (unsP f) ≤ K
    unfold totP unsP
    rw [hz]
    have : sumI (f.l.map fun _ => (0 : Int)) = 0 := by
      induction f.l with
      | nil => rfl
      | cons b r ih => rw [List.map_cons, sumI, ih]; rfl
    rw [this]; exact h0
/-- a leg is put into the inventory -/
theorem StkAt.opened {W w7 : World} {R : Nat → Prop} {o : Own'} {B n ml : Nat} {cs : List Cf} {g : Stk} (h : StkAt W R o B n cs g) (hml : W.cell? ⟨B, 1, none⟩ = some (.map (some ml))) {i : Lid} (hi : OkD i) (hg : g i = none) (hn : n ≤ 1000) {q : Lg} {v : Value} {sb : Nat} {fs : List Nat} (hf : FrS W.heap.size w7 v q.so sb fs) (hb : Below W.heap.size W w7) :
    ∃ w9 o', (Instr.mapUpdate lgmT (.map (some ml)) (aggD i) (.pointer (some ⟨w7.heap.size, 0, none⟩))).run Tryz.prog (w7.alloc (.cells #[.string q.f.equip, .slice q.f.A q.f.l.length q.f.c, v, .bool q.cl] legT)) = .ok () w9 ∧ StkAt w9 R o' B (n + 1) cs (updS g i q) ∧ But W w9 (fun k => k = ml) ∧ Ext W o o' ∧ MutB o ml := by
  obtain ⟨a, ha⟩ : ∃ a, a = w7.heap.size := ⟨_, rfl⟩
  obtain ⟨w8, hw8⟩ : ∃ w8, w8 = w7.alloc (.cells #[.string q.f.equip, .slice q.f.A q.f.l.length q.f.c, v, .bool q.cl] legT) := ⟨_, rfl⟩
  have hbC := bel_alloc w7 (.cells #[.string q.f.equip, .slice q.f.A q.f.l.length q.f.c, v, .bool q.cl] legT)
  rw [← hw8] at hbC
  have hb8 := hb.trans (hbC.mono hb.size)
  have h8 := h.more hb8
  have hf8 := hf.more hbC
  have hblk : w8.heap[a]? = some (.cells #[.string q.f.equip, .slice q.f.A q.f.l.length q.f.c, v, .bool q.cl] legT (0, 0)) := by rw [hw8, ha]; exact World.alloc_heap_new w7 _
  have hsb : sb < a := by rw [ha]; exact hf.hsb.2.1
  have hfs : ∀ k ∈ fs, k < a := fun k hk => by rw [ha]; exact (hf.lt hk).2
  have haW : W.heap.size ≤ a := by rw [ha]; exact hb.size
  obtain ⟨mc, ml', nc, c0, c1, r1, r2, r3, r4, hM⟩ := h8.box
  obtain rfl : ml' = ml := by have := bel_cell hb8 hml; rw [c1] at this; simpa using this
  let o' : Own' := fun k => if k = a then .leg i else retag o i sb fs k
  have oa : o' a = .leg i := if_pos rfl
  have oold : ∀ k, k < W.heap.size → o' k = retag o i sb fs k ∧ (retag o i sb fs k = o k ∨ (retag o i sb fs k = .none ∧ (o k = .sl i ∨ ∃ m, o k = .row i m))) := fun k hk => ⟨if_neg (by omega), retag_old (by have := hf.hsb.1; omega) (fun hm => by have := (hf.lt hm).1; omega)⟩
  have hnew : ∀ k, ¬ k < W.heap.size → o k = .none := fun k hk => by
    cases e : o k with
    | none => rfl
    | _ => exact absurd ((h.ro k (by rw [e]; exact fun h => nomatch h)).2) hk
  have hol : ∀ k j, o' k = .leg j → (k = a ∧ j = i) ∨ (o k = .leg j ∧ k ≠ a) := fun k j e => by
    by_cases hk : k = a
    · subst hk; rw [oa] at e; injection e with e; exact .inl ⟨rfl, e.symm⟩
    · right
      refine ⟨?_, hk⟩
      rw [show o' k = retag o i sb fs k from if_neg hk] at e
      unfold retag at e
      split at e
      · cases e
      split at e
      · cases e
      split at e
      · split at e <;> cases e
      · split at e <;> cases e
      · exact e
  have hmlW : ml' < W.heap.size := by
    by_cases e : ml' < W.heap.size
    · exact e
    · rw [hnew _ e] at r4; cases r4
  have oml : o' ml' = .map := by
    rw [(oold ml' hmlW).1]
    rcases (oold ml' hmlW).2 with e | ⟨_, e | ⟨_, e⟩⟩
    · rw [e, r4]
    · rw [r4] at e; cases e
    · rw [r4] at e; cases e
  have osb : o' sb = .sl i := by
    show (if sb = a then _ else retag o i sb fs sb) = _
    rw [if_neg (by omega)]
    unfold retag
    rw [if_pos rfl]
  have ofs : ∀ k ∈ fs, o' k = .row i (fs.idxOf k) := fun k hk => by
    have h1 := hfs k hk
    show (if k = a then _ else retag o i sb fs k) = _
    rw [if_neg (by omega)]
    unfold retag
    have hksb : ¬ k = sb := fun e => hf.hsb.2.2 (by rw [← e]; exact hk)
    rw [if_neg hksb, if_pos hk]
  have hLeg : LegAt w8 o' i a q := ⟨oa, (Array.getElem?_eq_some_iff.1 hblk).1, cell_of_row _ _ 0 _ _ (0, 0) hblk, cell_of_row _ _ 1 _ _ (0, 0) hblk, ⟨v, cell_of_row _ _ 2 _ _ (0, 0) hblk, hf8.sold osb ofs⟩, cell_of_row _ _ 3 _ _ (0, 0) hblk, fun j => frozen_of_row _ _ j _ _ hblk⟩
  have hM' : LegM w8 o' ml' n g := hM.own (fun k j hk hj hh => by
    have hkW : k < W.heap.size := by
      by_cases e : k < W.heap.size
      · exact e
      · rw [hnew k e] at hh; rcases hh with h | h | ⟨_, h⟩ <;> cases h
    have hji : j ≠ i := fun e => by rw [e, hg] at hj; cases hj
    rw [(oold k hkW).1]
    rcases (oold k hkW).2 with e | ⟨_, e | ⟨_, e⟩⟩
    · exact e
    · rcases hh with h | h | ⟨_, h⟩ <;> rw [h] at e <;> first | (simp at e; done) | (simp at e; exact absurd e hji)
    · rcases hh with h | h | ⟨_, h⟩ <;> rw [h] at e <;> first | (simp at e; done) | (simp at e; exact absurd e.1 hji))
  obtain ⟨w9, hrun, hM9, hg9⟩ := hM'.put oml (by unfold maxLen; omega) hi hLeg
  have hbut : But w8 w9 (fun k => k = ml') := ⟨hg9.os, hg9.tape, hg9.output, hg9.size, fun k hk hne => hg9.block k hk (fun e => hne (Option.some.inj e))⟩
  have hmlR : ¬ R ml' := (h.ro ml' (by rw [r4]; exact fun h => nomatch h)).1
  have hBml : B ≠ ml' := fun e => by
    rcases h.own with h1 | h1
    · exact hmlR (e ▸ h1)
    · rw [e, r4] at h1; cases h1
  refine ⟨w9, o', by rw [ha] at hrun; rw [hw8] at hrun; exact hrun, ⟨⟨mc, ml', nc, but_cell hbut c0 hBml, but_cell hbut c1 hBml, r1, r2.same (hbut.block mc r2.lt (fun e => hmlR (e ▸ r1))), r3, oml, hM9⟩, ?_, fun f hf' => ⟨(h8.cfs f hf').1.but hbut (fun k hk => by rw [hk]; exact hmlR), (h8.cfs f hf').2⟩, fun k hk => ?_, fun k hk => Nat.lt_of_lt_of_le (h8.rlt k hk) hbut.size, fun a1 b1 j e1 e2 => ?_, fun a1 j e1 => ?_⟩, (But.of_below hb8).trans hbut (fun k _ h => h), fun k hk => ?_, by unfold MutB; rw [r4]; trivial⟩
  · rcases h.own with h1 | h1
    · exact .inl h1
    · right
      have hBW : B < W.heap.size := (h.ro B (by rw [h1]; exact fun h => nomatch h)).2
      rw [(oold B hBW).1]
      rcases (oold B hBW).2 with e | ⟨_, e | ⟨_, e⟩⟩
      · rw [e, h1]
      · rw [h1] at e; cases e
      · rw [h1] at e; cases e
  · by_cases hkW : k < W.heap.size
    · rw [(oold k hkW).1] at hk
      have h1 : o k ≠ .none := fun e => by
        rcases (oold k hkW).2 with e2 | ⟨e2, _⟩
        · rw [e2, e] at hk; exact hk rfl
        · exact hk e2
      exact ⟨(h.ro k h1).1, Nat.lt_of_lt_of_le hkW (Nat.le_trans hb8.size hbut.size)⟩
    · refine ⟨fun hR => hkW (h.rlt k hR), ?_⟩
      refine Nat.lt_of_lt_of_le ?_ hbut.size
      have hasz : a < w8.heap.size := (Array.getElem?_eq_some_iff.1 hblk).1
      by_cases e1 : k = a
      · rw [e1]; exact hasz
      · rw [show o' k = retag o i sb fs k from if_neg e1] at hk
        unfold retag at hk
        split at hk
        · omega
        split at hk
        · rename_i _ hm
          have := hfs k hm
          omega
        · rw [hnew k hkW] at hk
          exact absurd rfl hk
  · rcases hol a1 j e1 with ⟨x1, x2⟩ | ⟨x1, x2⟩ <;> rcases hol b1 j e2 with ⟨y1, y2⟩ | ⟨y1, y2⟩
    · rw [x1, y1]
    · have := h.liv b1 j y1; rw [x2, hg] at this; cases this
    · have := h.liv a1 j x1; rw [y2, hg] at this; cases this
    · exact h.uniq a1 b1 j x1 y1
  · unfold updS
    split
    · rfl
    · rename_i hji
      rcases hol a1 j e1 with ⟨_, x2⟩ | ⟨x1, _⟩
      · exact absurd x2 hji
      · exact h.liv a1 j x1
  · rw [(oold k hk).1]
    rcases (oold k hk).2 with e | ⟨e, _⟩
    · exact .inl e
    · exact .inr e
/-- the contract of a look-up of a configuration -/
theorem zeroCf (w : World) : (zeroValue cfT).run Tryz.prog w = .ok (aggCf cfZ) w := by kernel_rfl
abbrev cfmT : TypeId := 68
theorem cfg_look {w : World} {b n : Nat} {cs : List Cf} (h : MapS w b n (gC cs)) {s : ByteArray} (hs : s.size ≤ maxLen) : (Instr.lookup cfmT (.map (some b)) (.string s) true).run Tryz.prog w = .ok (.tuple #[aggCf ((findQ cs s).getD cfZ), .bool (findQ cs s).isSome]) w := by
  have h1 := h.look strK Tryz.underlying68 (zeroCf w) (str_key s hs) true
  rw [h1]
  unfold gC
  cases findQ cs s <;> rfl
set_option maxRecDepth 100000 in
set_option maxHeartbeats 8000000 in
theorem lopen_any (R : Nat → Prop) (o : Own') (B n : Nat) (cs : List Cf) (g : Stk) (K : Int) (i : Lid) (s : ByteArray) (w : World) (hS : StkAt w R o B n cs g) (hG : OkG K cs g) (hK : 0 ≤ K) (hi : OkD i) (hs : s.size ≤ maxLen) (hn : n ≤ 1000) :
    Calls Tryz.prog 35 #[.pointer (some ⟨B, 0, none⟩), aggD i, .string s] w fun e w' => e = .returned (.int .i64 (opnE cs g i s)) ∧ (∃ o', StkAt w' R o' B (n + 1) cs (opnG cs g i s) ∧ Ext w o o') ∧ But w w' (MutB o) ∧ OkG K cs (opnG cs g i s) := by
  have hbA := bel_alloc w (.cells #[.string i.car, .int .i64 i.num, .int .i64 i.day, .string i.frm] lidT)
  have hS' := hS.more hbA
  obtain ⟨l0, l1, l2, l3⟩ := lid_new w i
  have HS := Lib.hid hS'
  obtain ⟨mc, ml, nc, c0, c1, _, hmc, _, _, hM⟩ := hS'.box
  have K0 := Lib.hid (isVoid_no B ml _ c1)
  have hmono : ∀ W, StkAt W R o B n cs g → StkAt W R o B (n + 1) cs g := fun W h => by
    obtain ⟨mc, ml, nc, h1, h2, h3, h4, h5, h6, hh, ⟨es, clock, h7, h8, h9, h10⟩, h11⟩ := h.box
    exact { h with box := ⟨mc, ml, nc, h1, h2, h3, h4, h5, h6, hh, ⟨es, clock, h7, h8, Nat.le_succ_of_le h9, h10⟩, h11⟩ }
  unfold opnE opnG
  cases hq : g i with
  | some q =>
    have K1 : Hid (∀ W, StkAt W R o B n cs g → Calls Tryz.prog 56 #[.pointer (some ⟨B, 0, none⟩), aggD i] W fun e w' => ∃ a, e = .returned (.pointer (some ⟨a, 0, none⟩)) ∧ Below W.heap.size W w') := Lib.hid (fun W h => (lfind_any R o B n cs g i W h hi).mono (by
      rintro e w' ⟨⟨p, rfl, hp⟩, hb⟩
      rw [hq] at hp
      obtain ⟨a, rfl, ha⟩ := hp
      exact ⟨a, rfl, hb⟩))
    have HG := Lib.hid hG
    have HM := Lib.hid hmono
    rw [if_pos (show (some q).isSome = true from rfl), if_pos (show (some q).isSome = true from rfl)]
    clear hS hS' hq hM hG hmc hmono
    go_enter Tryz.func35, Tryz.ntmps35
    go_upto_region 1 with fail
    generalize w.alloc (.cells #[.string i.car, .int .i64 i.num, .int .i64 i.day, .string i.frm] lidT) = w5 at *
    go_wp2_with (first
      | (go_at_call 67; refine K0.out.mono ?_; rintro e w4 ⟨rfl, rfl⟩)
      | (go_at_call 56; refine (K1.out _ HS.out).mono ?_; rintro e w6 ⟨a, rfl, hb6⟩))
    go_ret
    exact ⟨rfl, ⟨o, HM.out _ (HS.out.more hb6), Ext.refl _ _⟩, But.of_below (hbA.trans (hb6.mono hbA.size)), HG.out⟩
  | none =>
  rw [if_neg (show ¬ (none : Option Lg).isSome = true by simp), if_neg (show ¬ (none : Option Lg).isSome = true by simp)]
  have K1 : Hid (∀ W, StkAt W R o B n cs g → Calls Tryz.prog 56 #[.pointer (some ⟨B, 0, none⟩), aggD i] W fun e w' => e = .returned (.pointer none) ∧ Below W.heap.size W w') := Lib.hid (fun W h => (lfind_any R o B n cs g i W h hi).mono (by
    rintro e w' ⟨⟨p, rfl, hp⟩, hb⟩
    rw [hq] at hp
    obtain rfl := hp
    exact ⟨rfl, hb⟩))
  have HLK : Hid (∀ W, SW (w.alloc (.cells #[.string i.car, .int .i64 i.num, .int .i64 i.day, .string i.frm] lidT)) W → (Instr.lookup cfmT (.map (some mc)) (.string s) true).run Tryz.prog W = .ok (.tuple #[aggCf ((findQ cs s).getD cfZ), .bool (findQ cs s).isSome]) W) := Lib.hid (fun W h => cfg_look (hmc.more h) hs)
  cases hf : findQ cs s with
  | none =>
    rw [hf] at HLK
    have HG := Lib.hid hG
    have HM := Lib.hid hmono
    rw [if_neg (show ¬ (none : Option Cf).isSome = true by simp)]
    clear hS hS' hq hM hG hmc hmono hf
    go_enter Tryz.func35, Tryz.ntmps35
    go_upto_region 1 with fail
    generalize w.alloc (.cells #[.string i.car, .int .i64 i.num, .int .i64 i.day, .string i.frm] lidT) = w5 at *
    go_upto_region 5 with (first
      | (go_at_call 67; refine K0.out.mono ?_; rintro e w4 ⟨rfl, rfl⟩)
      | (go_at_call 56; refine (K1.out _ HS.out).mono ?_; rintro e w6 ⟨rfl, hb6⟩))
    have hlk : (Instr.lookup cfmT (.map (some mc)) (.string s) true).run Tryz.prog w6 = .ok (.tuple #[.agg #[.string noB, .slice none 0 0], .bool false]) w6 := HLK.out w6 hb6
    have c0 := bel_cell hb6 c0
    go_wp2
    go_ret
    refine ⟨rfl, ⟨o, HM.out _ ((HS.out.more hb6).more (bel_alloc _ _)), Ext.refl _ _⟩, But.of_below ((hbA.trans (hb6.mono hbA.size)).trans ((bel_alloc _ _).mono (hbA.trans (hb6.mono hbA.size)).size)), HG.out⟩
  | some f =>
    rw [hf] at HLK
    have hfm := find_mem hf
    have hcf := hS.cfs f hfm
    have HG2 : Hid (OkG K cs (updS g i ⟨f, unsP f, false⟩)) := Lib.hid (hG.upd (OkL.new hK hcf.2) hfm)
    have hsm := hcf.2.2.1
    have hpos := hcf.2.2.2.2.1
    have KU : Hid (∀ W, StkAt W R o B n cs g → Calls Tryz.prog 70 #[.agg #[.string f.equip, .slice f.A f.l.length f.c]] W fun e w' => ∃ v sb fs, e = .returned v ∧ FrS W.heap.size w' v (unsP f) sb fs ∧ Below W.heap.size W w') := Lib.hid (fun W h => (unsold_any f W (h.cfAt hfm) hsm).mono (by
      rintro e w' ⟨v, L, rfl, hU, hb⟩
      obtain ⟨sb, hfr⟩ := hU.fr hpos
      exact ⟨v, sb, _, rfl, hfr, hb⟩))
    have HOP : Hid (∀ W w7 v sb fs, StkAt W R o B n cs g → W.cell? ⟨B, 1, none⟩ = some (.map (some ml)) → FrS W.heap.size w7 v (unsP f) sb fs → Below W.heap.size W w7 → ∃ w9 o', (Instr.mapUpdate lgmT (.map (some ml)) (aggD i) (.pointer (some ⟨w7.heap.size, 0, none⟩))).run Tryz.prog (w7.alloc (.cells #[.string f.equip, .slice f.A f.l.length f.c, v, .bool false] legT)) = .ok () w9 ∧ StkAt w9 R o' B (n + 1) cs (updS g i ⟨f, unsP f, false⟩) ∧ But W w9 (fun k => k = ml) ∧ Ext W o o' ∧ MutB o ml) := Lib.hid (fun W w7 v sb fs h1 h2 h3 h4 => h1.opened h2 hi hq hn (q := ⟨f, unsP f, false⟩) h3 h4)
    rw [if_pos (show (some f).isSome = true from rfl)]
    have HMB : Hid (∃ es cl, (w.alloc (.cells #[.string i.car, .int .i64 i.num, .int .i64 i.day, .string i.frm] lidT)).heap[ml]? = some (.map es cl)) := Lib.hid (by
      obtain ⟨hh, ⟨es, cl, h, _⟩, _⟩ := hM
      exact ⟨es, cl, h⟩)
    clear hS hS' hq hM hG hmc hmono hf hcf hsm
    go_enter Tryz.func35, Tryz.ntmps35
    go_upto_region 1 with fail
    generalize w.alloc (.cells #[.string i.car, .int .i64 i.num, .int .i64 i.day, .string i.frm] lidT) = w5 at *
    go_upto_region 5 with (first
      | (go_at_call 67; refine K0.out.mono ?_; rintro e w4 ⟨rfl, rfl⟩)
      | (go_at_call 56; refine (K1.out _ HS.out).mono ?_; rintro e w6 ⟨rfl, hb6⟩))
    have hlk : (Instr.lookup cfmT (.map (some mc)) (.string s) true).run Tryz.prog w6 = .ok (.tuple #[.agg #[.string f.equip, .slice f.A f.l.length f.c], .bool true]) w6 := HLK.out w6 hb6
    have hb06 := hbA.trans (hb6.mono hbA.size)
    have hbC := bel_alloc w6 (.cells #[.string f.equip, .slice f.A f.l.length f.c] cfT)
    have hb56 := hb6.trans (hbC.mono hb6.size)
    have hb08 := hb06.trans (hbC.mono hb06.size)
    have hS8 := HS.out.more hb56
    have c08 := bel_cell hb6 c0
    have x0 := (cells_new w6 #[.string f.equip, .slice f.A f.l.length f.c] cfT 0).trans (show _ = some (Value.string f.equip) from rfl)
    have x1 := (cells_new w6 #[.string f.equip, .slice f.A f.l.length f.c] cfT 1).trans (show _ = some (Value.slice f.A f.l.length f.c) from rfl)
    have y0 := bel_cell hb56 l0
    have y1 := bel_cell hb56 l1
    have y2 := bel_cell hb56 l2
    have y3 := bel_cell hb56 l3
    have y4 := bel_cell hb56 c1
    go_upto_region 8 with fail
    clear c08 hlk hbC
    generalize w6.alloc (.cells #[.string f.equip, .slice f.A f.l.length f.c] cfT) = w8 at *
    obtain ⟨es8, cl8, hm8⟩ : ∃ es cl, w8.heap[ml]? = some (.map es cl) := by
      obtain ⟨es, cl, h⟩ := HMB.out
      exact ⟨es, cl, (hb56.block ml (Array.getElem?_eq_some_iff.1 h).1).trans h⟩
    have f0 : ∀ W, But w8 W (fun k => k = ml) → W.cell? ⟨w.heap.size, 0, none⟩ = some (.string i.car) := fun W h => but_cell h y0 (fun e => nomap_cell y0 hm8 e)
    have f1 : ∀ W, But w8 W (fun k => k = ml) → W.cell? ⟨w.heap.size, 1, none⟩ = some (.int .i64 i.num) := fun W h => but_cell h y1 (fun e => nomap_cell y1 hm8 e)
    have f2 : ∀ W, But w8 W (fun k => k = ml) → W.cell? ⟨w.heap.size, 2, none⟩ = some (.int .i64 i.day) := fun W h => but_cell h y2 (fun e => nomap_cell y2 hm8 e)
    have f3 : ∀ W, But w8 W (fun k => k = ml) → W.cell? ⟨w.heap.size, 3, none⟩ = some (.string i.frm) := fun W h => but_cell h y3 (fun e => nomap_cell y3 hm8 e)
    have f4 : ∀ W, But w8 W (fun k => k = ml) → W.cell? ⟨B, 1, none⟩ = some (.map (some ml)) := fun W h => but_cell h y4 (fun e => nomap_cell y4 hm8 e)
    have f5 : ∀ W, But w8 W (fun k => k = ml) → W.cell? ⟨w6.heap.size, 0, none⟩ = some (.string f.equip) := fun W h => but_cell h x0 (fun e => nomap_cell x0 hm8 e)
    have f6 : ∀ W, But w8 W (fun k => k = ml) → W.cell? ⟨w6.heap.size, 1, none⟩ = some (.slice f.A f.l.length f.c) := fun W h => but_cell h x1 (fun e => nomap_cell x1 hm8 e)
    have hSd := hS8.more (Below.refl _ w8).drew
    have hMl : w8.drew.cell? ⟨B, 1, none⟩ = some (.map (some ml)) := y4
    have hS : (fun W => But w8 W (fun k => k = ml)) _ := But.of_below (Below.refl _ _).drew
    refine wp_region_held_drew (S := fun W => But w8 W (fun k => k = ml)) (by kernel_rfl) hS (fun _ => ?_)
    refine wpAnyH_take (i := 0) (v := ?vO0) rfl (by kernel_rfl) (by kernel_rfl) (by kernel_rfl) (fun _ _ _ h => h) (Or.inl ⟨by rfl, ?hyO0⟩) hS ?restO0
    case hyO0 =>
      intro w hSw
      first | (go_simp; done) | (go_simp; with_reducible rfl)
    try simp only [Act.put, List.setIfInBounds_toArray, List.set_cons_zero, List.set_cons_succ]
    refine wpAnyH_take (i := 1) (v := ?vO1) rfl (by kernel_rfl) (by kernel_rfl) (by kernel_rfl) (fun _ _ _ h => h) (Or.inl ⟨by rfl, ?hyO1⟩) hS ?restO1
    case hyO1 =>
      intro w hSw
      first | (go_simp; done) | (go_simp; with_reducible rfl)
    try simp only [Act.put, List.setIfInBounds_toArray, List.set_cons_zero, List.set_cons_succ]
    refine wpAnyH_take (i := 2) (v := ?vO2) rfl (by kernel_rfl) (by kernel_rfl) (by kernel_rfl) (fun _ _ _ h => h) (Or.inl ⟨by rfl, ?hyO2⟩) hS ?restO2
    case hyO2 =>
      intro w hSw
      first | (go_simp; done) | (go_simp; with_reducible rfl)
    try simp only [Act.put, List.setIfInBounds_toArray, List.set_cons_zero, List.set_cons_succ]
    refine wpAnyH_take (i := 3) (v := ?vO3) rfl (by kernel_rfl) (by kernel_rfl) (by kernel_rfl) (fun _ _ _ h => h) (Or.inl ⟨by rfl, ?hyO3⟩) hS ?restO3
    case hyO3 =>
      intro w hSw
      have k0 := f0 w hSw; have k1 := f1 w hSw; have k2 := f2 w hSw; have k3 := f3 w hSw; have k4 := f4 w hSw; have k5 := f5 w hSw; have k6 := f6 w hSw
      first | (go_simp; done) | (go_simp; with_reducible rfl)
    try simp only [Act.put, List.setIfInBounds_toArray, List.set_cons_zero, List.set_cons_succ]
    refine wpAnyH_take (i := 4) (v := ?vO4) rfl (by kernel_rfl) (by kernel_rfl) (by kernel_rfl) (fun _ _ _ h => h) (Or.inl ⟨by rfl, ?hyO4⟩) hS ?restO4
    case hyO4 =>
      intro w hSw
      have k0 := f0 w hSw; have k1 := f1 w hSw; have k2 := f2 w hSw; have k3 := f3 w hSw; have k4 := f4 w hSw; have k5 := f5 w hSw; have k6 := f6 w hSw
      first | (go_simp; done) | (go_simp; with_reducible rfl)
    try simp only [Act.put, List.setIfInBounds_toArray, List.set_cons_zero, List.set_cons_succ]
    refine wpAnyH_take (i := 5) (v := ?vO5) rfl (by kernel_rfl) (by kernel_rfl) (by kernel_rfl) (fun _ _ _ h => h) (Or.inl ⟨by rfl, ?hyO5⟩) hS ?restO5
    case hyO5 =>
      intro w hSw
      have k0 := f0 w hSw; have k1 := f1 w hSw; have k2 := f2 w hSw; have k3 := f3 w hSw; have k4 := f4 w hSw; have k5 := f5 w hSw; have k6 := f6 w hSw
      first | (go_simp; done) | (go_simp; with_reducible rfl)
    try simp only [Act.put, List.setIfInBounds_toArray, List.set_cons_zero, List.set_cons_succ]
    refine wpAnyH_take (i := 6) (v := ?vO6) rfl (by kernel_rfl) (by kernel_rfl) (by kernel_rfl) (fun _ _ _ h => h) (Or.inl ⟨by rfl, ?hyO6⟩) hS ?restO6
    case hyO6 =>
      intro w hSw
      have k0 := f0 w hSw; have k1 := f1 w hSw; have k2 := f2 w hSw; have k3 := f3 w hSw; have k4 := f4 w hSw; have k5 := f5 w hSw; have k6 := f6 w hSw
      first | (go_simp; done) | (go_simp; with_reducible rfl)
    try simp only [Act.put, List.setIfInBounds_toArray, List.set_cons_zero, List.set_cons_succ]
    refine wpAnyH_ready (rs := [7]) (by kernel_rfl) (by simp) ?_
    refine AllReadyH.cons rfl (fun K hK => ?_) AllReadyH.nil
    go_simp
    go_wp2_with (go_at_call 70; refine (KU.out _ hSd).mono ?_; rintro e w7 ⟨v, sb, fs, rfl, hfr, hb7⟩)
    obtain ⟨sc, rfl⟩ := id hfr.hv
    have hS7 := hS
    have hS := hS.trans (But.of_below (X := fun k => k = ml) hb7) (fun _ _ h => h)
    obtain ⟨w9, o', hrun, hS9, hb9, hE9, hmu⟩ := HOP.out _ _ _ sb fs hSd hMl hfr hb7
    refine hK.out _ _ hS (fun _ => ?_)
    clear hK K
    refine wpAnyH_take (i := 8) (v := ?vO8) rfl (by kernel_rfl) (by kernel_rfl) (by kernel_rfl) (fun _ _ _ h => h) (Or.inl ⟨by rfl, ?hyO8⟩) hS ?restO8
    case hyO8 =>
      intro w hSw
      first | (go_simp; done) | (go_simp; with_reducible rfl)
    try simp only [Act.put, List.setIfInBounds_toArray, List.set_cons_zero, List.set_cons_succ]
    refine wpAnyH_ready (rs := [9]) (by kernel_rfl) (by simp) ?_
    refine AllReadyH.cons rfl (fun K hK => ?_) AllReadyH.nil
    go_simp
    have hS := hS.trans (But.of_below (X := fun k => k = ml) (bel_alloc w7 (.cells #[.string f.equip, .slice f.A f.l.length f.c, .slice (some ⟨sb, 0, none⟩) (unsP f).length sc, .bool false] legT))) (fun _ _ h => h)
    refine hK.out _ _ hS (fun _ => ?_)
    clear hK K
    refine wpAnyH_ready (rs := [10]) (by kernel_rfl) (by simp) ?_
    refine AllReadyH.cons rfl (fun K hK => ?_) AllReadyH.nil
    go_simp
    have hS := hS7.trans hb9 (fun _ _ h => h)
    refine hK.out _ _ hS (fun _ => ?_)
    clear hK K
    refine wpAnyH_done (by kernel_rfl) ?_ _
    try simp only [List.getElem_toArray, List.getElem_cons_succ, List.getElem_cons_zero, List.set_cons_zero, List.set_cons_succ]
    go_wp2
    go_ret
    have hsz8 := hb08.size
    refine ⟨rfl, ⟨o', hS9, fun k hk => hE9 k (Nat.lt_of_lt_of_le hk (by simpa using hsz8))⟩, ?_, HG2.out⟩
    exact ((But.of_below (X := MutB o) hb08).trans (But.of_below (X := MutB o) (Below.refl _ w8).drew) (fun _ _ h => h)).trans hb9 (fun k _ e => by rw [e]; exact hmu)
end Go.Proofs.YtkghpapbifijcaaGreatDoor
