/- Seats that move to another configuration: plain facts, and a leg that changes its configuration in memory. -/
import Derived.Test.YtkghpapbifijcaaGreatDoorStk4
namespace Go.Proofs.YtkghpapbifijcaaGreatDoor
open Go.RowKit Go.Shelf Go.Maps Go.MapKept
set_option linter.unusedSimpArgs false
set_option linter.unusedVariables false

theorem cntC_sum : ∀ (l : List Cl) (s : List Int), s.length = l.length → sumI ((cntC l s).map Prod.snd) = sumI s
  | [], [], _ => rfl
  | [], y :: s, h => by simp at h
  | x :: l, [], h => by simp at h
  | x :: l, y :: s, h => by
    have ih := cntC_sum l s (by simpa using h)
    unfold cntC at ih ⊢
    simp only [List.zip_cons_cons, List.map_cons, sumI] at ih ⊢
    rw [ih]
theorem cntB_sum : ∀ (l : List Cb) (so : List (List Int)), so.length = l.length → (∀ (i : Nat) (b : Cb) (s : List Int), l[i]? = some b → so[i]? = some s → s.length = b.l.length) → sumI ((cntB l so).map Prod.snd) = totP so
  | [], [], _, _ => rfl
  | [], y :: s, h, _ => by simp at h
  | x :: l, [], h, _ => by simp at h
  | b :: l, s :: so, h, he => by
    have ih := cntB_sum l so (by simpa using h) (fun i c t hc ht => he (i + 1) c t (by simpa using hc) (by simpa using ht))
    have h1 := cntC_sum b.l s (he 0 b s rfl rfl)
    unfold cntB totP at ih ⊢
    simp only [List.zip_cons_cons, List.flatMap_cons, List.map_append, List.map_cons, sumI, sumI_app] at ih ⊢
    rw [ih, h1]
theorem cntB_mem {l : List Cb} {so : List (List Int)} {x : ByteArray × Int} (h : x ∈ cntB l so) : ∃ b ∈ l, ∃ y ∈ b.l, x.1 = y.code ∧ ∃ s ∈ so, x.2 ∈ s := by
  unfold cntB at h
  obtain ⟨p, hp, hx⟩ := List.mem_flatMap.1 h
  unfold cntC at hx
  obtain ⟨r, hr, rfl⟩ := List.mem_map.1 hx
  exact ⟨p.1, (List.of_mem_zip hp).1, r.1, (List.of_mem_zip hr).1, rfl, p.2, (List.of_mem_zip hp).2, (List.of_mem_zip hr).2⟩
theorem like_ok {la lb : List Cb} {s : ByteArray} (h : plB la s = true) (h0 : 0 < lb.length) (h1 : ∀ b ∈ lb, 0 < b.l.length) : (lkR la lb s).2 = true ∧ plB lb (lkR la lb s).1 = true := by
  have h2 : (lkR la lb s).2 = true := by
    unfold lkR
    rw [if_pos ⟨h, h0⟩]
    split
    · rfl
    · rw [if_pos ?_]
      have hi := pl_in h
      have hb : (min (plI la s) ((lb.length : Int) - 1)).toNat < lb.length := by
        have := Int.min_le_right (plI la s) ((lb.length : Int) - 1)
        omega
      unfold lkC
      rw [List.getElem?_eq_getElem hb]
      exact h1 _ (List.getElem_mem hb)
  exact ⟨h2, (lk_facts h2).1⟩
/-- what has moved after k classes -/
theorem OkL.mv {K : Int} {q : Lg} (h : OkL K q) {f : Cf} (hf : GoodF f) : ∀ k, OkL (sumI ((q.counts.take k).map Prod.snd)) ⟨f, mvP q.f f (q.counts.take k), false⟩
  | 0 => OkL.new (by simp [sumI]) hf
  | k + 1 => by
    have ih := OkL.mv h hf k
    cases hx : q.counts[k]? with
    | none =>
      rw [List.take_add_one, hx]
      simpa using ih
    | some x =>
      obtain ⟨b, hb, y, hy, e1, s, hs, e2⟩ := cntB_mem (List.mem_of_getElem? hx)
      have hx0 : 0 ≤ x.2 := h.low s hs _ e2
      have hpl : plB q.f.l x.1 = true := by rw [e1]; exact pl_of_mem hb hy
      obtain ⟨h2, h3⟩ := like_ok (lb := f.l) hpl hf.2.2.2.1 hf.2.2.2.2
      have hadd := OkL.add ih (c := (lkR q.f.l f.l x.1).1) h3 (m := x.2) (by have := OkL.sold0 ih (c := (lkR q.f.l f.l x.1).1) h3; omega)
      rw [List.take_add_one, hx]
      have e3 : mvP q.f f (q.counts.take k ++ (some x).toList) = mv1 q.f f (mvP q.f f (q.counts.take k)) x := by
        unfold mvP
        rw [List.foldl_append]
        rfl
      rw [e3, List.map_append, sumI_app]
      have e4 : sumI (((some x).toList).map Prod.snd) = max x.2 0 := by
        show x.2 + 0 = _
        rw [Int.max_def]; split <;> omega
      rw [e4]
      exact hadd
theorem OkL.resize {K : Int} {q : Lg} (h : OkL K q) {f : Cf} (hf : GoodF f) : OkL K (q.resize f) := by
  have h1 := OkL.mv h hf q.counts.length
  rw [List.take_length] at h1
  have h2 : sumI (q.counts.map Prod.snd) = totP q.so := cntB_sum q.f.l q.so h.len h.each
  rw [h2] at h1
  have h3 := h1.mono h.tot
  exact ⟨h3.right, h3.small, h3.ok, h3.pos, h3.cls, h3.len, h3.each, h3.low, h3.tot⟩
theorem FrS.store {N : Nat} {w : World} {v : Value} {so : List (List Int)} {sb : Nat} {fs : List Nat} (h : FrS N w v so sb fs) {ci ck r : Nat} {s : List Int} (hs : so[ci]? = some s) (hck : ck < s.length) (hr : fs[ci]? = some r) (hrow : Row w r s) (y : Int) : FrS N (w.setCell ⟨r, ck, none⟩ (.int .i64 y)) v (so.set ci (s.set ck y)) sb fs := by
  have hbut := But.setCell w r ck (.int .i64 y)
  have hsr : sb ≠ r := fun e => h.hsb.2.2 (by rw [e]; exact List.mem_of_getElem? hr)
  refine ⟨by rw [List.length_set]; exact h.hv, ⟨h.hsb.1, Nat.lt_of_lt_of_le h.hsb.2.1 hbut.size, h.hsb.2.2⟩, by rw [List.length_set]; exact h.hfs, fun k t hk => ?_⟩
  rw [List.getElem?_set] at hk
  by_cases e : ci = k
  · subst e
    rw [if_pos rfl] at hk
    split at hk
    · cases hk
      obtain ⟨r', c', h1, h2, h3, h4⟩ := h.hrow ci s hs
      rw [hr] at h1
      cases h1
      exact ⟨r, c', hr, by rw [List.length_set]; exact but_cell hbut h2 hsr, h3, hrow.set ck hck y⟩
    · cases hk
  · rw [if_neg e] at hk
    obtain ⟨r', c', h1, h2, h3, h4⟩ := h.hrow k t hk
    have hrr : r' ≠ r := fun e2 => by
      subst e2
      obtain ⟨g1, g2⟩ := List.getElem?_eq_some_iff.1 h1
      obtain ⟨g3, g4⟩ := List.getElem?_eq_some_iff.1 hr
      have e5 := h.hfs.2.idxOf_getElem k g1
      have e6 := h.hfs.2.idxOf_getElem ci g3
      rw [g2] at e5
      rw [g4] at e6
      exact e (e6.symm.trans e5)
    exact ⟨r', c', h1, but_cell hbut h2 hsr, h3, h4.but hbut hrr⟩
theorem LegM.upd2 {w w' : World} {X : Nat → Prop} {o o' : Own'} {b n : Nat} {g : Stk} (h : LegM w o b n g) (hb : But w w' X) {i : Lid} {a : Nat} {q q' : Lg} (hq : g i = some q) (ha' : LegAt w' o' i a q') (hbX : ¬ X b) (hX : ∀ k j, j ≠ i → X k → (∀ m, o k ≠ .row j m) ∧ o k ≠ .sl j ∧ o k ≠ .leg j) (ho : ∀ k j, k < w'.heap.size → j ≠ i → (o k = .leg j ∨ o k = .sl j ∨ ∃ m, o k = .row j m) → o' k = o k)
    (hu : ∀ a2, o a2 = .leg i → a2 = a) : LegM w' o' b n (updS g i q') := by
  obtain ⟨hh, ⟨es, clock, h1, h2⟩, h3⟩ := h
  refine ⟨hh, ⟨es, clock, (hb.block b (Array.getElem?_eq_some_iff.1 h1).1 hbX).trans h1, h2⟩, fun j => ?_⟩
  unfold updS
  by_cases e : j = i
  · subst e
    rw [if_pos rfl]
    have h4 := h3 j
    rw [hq] at h4
    obtain ⟨a2, e2, h5⟩ := h4
    obtain rfl := hu a2 h5.tag
    exact ⟨a2, e2, ha'⟩
  · rw [if_neg e]
    have h4 := h3 j
    revert h4
    cases g j with
    | none => exact id
    | some p =>
      rintro ⟨a2, e2, h5⟩
      exact ⟨a2, e2, (h5.but hb (fun k hk => hX k j e hk)).own (fun k hk hh => ho k j hk e hh)⟩
/-- a leg changes its configuration -/
theorem StkAt.resized {W w7 : World} {R : Nat → Prop} {o : Own'} {B n : Nat} {cs : List Cf} {g : Stk} (h : StkAt W R o B n cs g) {i : Lid} {a : Nat} {q : Lg} (hq : g i = some q) (ha : LegAt W o i a q) {f : Cf} {so : List (List Int)} {v : Value} {sb : Nat} {fs : List Nat} (hf : FrS W.heap.size w7 v so sb fs) (hb : Below W.heap.size W w7) {w9 : World}
    (hbut : But w7 w9 (fun k => k = a)) (c0 : w9.cell? ⟨a, 0, none⟩ = some (.string f.equip)) (c1 : w9.cell? ⟨a, 1, none⟩ = some (.slice f.A f.l.length f.c)) (c2 : w9.cell? ⟨a, 2, none⟩ = some v) (c3 : w9.cell? ⟨a, 3, none⟩ = some (.bool q.cl)) (hfz : ∀ j, w9.frozen? ⟨a, j, none⟩ = false) :
    ∃ o', StkAt w9 R o' B n cs (updS g i ⟨f, so, q.cl⟩) ∧ But W w9 (MutB o) ∧ Ext W o o' := by
  have h7 := h.more hb
  have haW : a < W.heap.size := ha.lt
  have hold : ∀ k, k < W.heap.size → k ≠ sb ∧ k ∉ fs := fun k hk => ⟨by have := hf.hsb.1; omega, fun hm => by have := (hf.lt hm).1; omega⟩
  have oold : ∀ k, k < W.heap.size → retag o i sb fs k = o k ∨ (retag o i sb fs k = .none ∧ (o k = .sl i ∨ ∃ m, o k = .row i m)) := fun k hk => retag_old (hold k hk).1 (hold k hk).2
  have hnew : ∀ k, ¬ k < W.heap.size → o k = .none := fun k hk => by
    cases e : o k with
    | none => rfl
    | _ => exact absurd ((h.ro k (by rw [e]; exact fun h => nomatch h)).2) hk
  have hsame : ∀ k, k < W.heap.size → (∀ m, o k ≠ .row i m) → o k ≠ .sl i → retag o i sb fs k = o k := fun k hk h1 h2 => by
    rcases oold k hk with e | ⟨_, e | ⟨m, e⟩⟩
    · exact e
    · exact absurd e h2
    · exact absurd e (h1 m)
  have oa : retag o i sb fs a = .leg i := by rw [hsame a haW (fun m e => by rw [ha.tag] at e; cases e) (fun e => by rw [ha.tag] at e; cases e), ha.tag]
  have osb : retag o i sb fs sb = .sl i := by unfold retag; rw [if_pos rfl]
  have ofs : ∀ k ∈ fs, retag o i sb fs k = .row i (fs.idxOf k) := fun k hk => by
    have hksb : ¬ k = sb := fun e => hf.hsb.2.2 (by rw [← e]; exact hk)
    unfold retag
    rw [if_neg hksb, if_pos hk]
  have hol : ∀ k j, retag o i sb fs k = .leg j → o k = .leg j := fun k j e => by
    unfold retag at e
    split at e
    · cases e
    split at e
    · cases e
    split at e
    · split at e <;> cases e
    · split at e <;> cases e
    · exact e
  have hf9 : FrS W.heap.size w9 v so sb fs := hf.but hbut (fun k e => by subst e; exact hold k haW)
  have hLeg : LegAt w9 (retag o i sb fs) i a ⟨f, so, q.cl⟩ := ⟨oa, Nat.lt_of_lt_of_le haW (Nat.le_trans hb.size hbut.size), c0, c1, ⟨v, c2, hf9.sold osb ofs⟩, c3, hfz⟩
  obtain ⟨mc, ml, nc, x0, x1, r1, r2, r3, r4, hM⟩ := h7.box
  have haR : ¬ R a := (h.ro a (by rw [ha.tag]; exact fun h => nomatch h)).1
  have hBa : B ≠ a := fun e => by
    rcases h.own with h1 | h1
    · exact haR (e ▸ h1)
    · rw [e, ha.tag] at h1; cases h1
  have hmla : ml ≠ a := fun e => by rw [e, ha.tag] at r4; cases r4
  have hmlW : ml < W.heap.size := by
    by_cases e : ml < W.heap.size
    · exact e
    · rw [hnew _ e] at r4; cases r4
  have oml : retag o i sb fs ml = .map := by rw [hsame ml hmlW (fun m e => by rw [r4] at e; cases e) (fun e => by rw [r4] at e; cases e), r4]
  have hM9 := hM.upd2 hbut hq hLeg (fun e => hmla e) (fun k j hj e => by subst e; rw [ha.tag]; exact ⟨fun m h => (nomatch h), fun h => (nomatch h), fun h => by injection h with h; exact hj h.symm⟩) (fun k j hk hj hh => by
    have hkW : k < W.heap.size := by
      by_cases e : k < W.heap.size
      · exact e
      · rw [hnew k e] at hh; rcases hh with h | h | ⟨_, h⟩ <;> cases h
    refine hsame k hkW (fun m e => ?_) (fun e => ?_) <;> rcases hh with h | h | ⟨_, h⟩ <;> rw [h] at e <;> first | (simp at e; done) | (simp at e; first | exact hj e | exact hj e.1)) (fun a2 e => h.uniq a2 a i e ha.tag)
  refine ⟨retag o i sb fs, ⟨⟨mc, ml, nc, but_cell hbut x0 hBa, but_cell hbut x1 hBa, r1, r2.same (hbut.block mc r2.lt (fun e => haR (e ▸ r1))), r3, oml, hM9⟩, ?_, fun f' hf' => ⟨(h7.cfs f' hf').1.but hbut (fun k hk => by rw [hk]; exact haR), (h7.cfs f' hf').2⟩, fun k hk => ?_, fun k hk => Nat.lt_of_lt_of_le (h7.rlt k hk) hbut.size, fun a1 b1 j e1 e2 => h.uniq a1 b1 j (hol a1 j e1) (hol b1 j e2), fun a1 j e1 => ?_⟩, ((But.of_below (X := MutB o) hb).trans hbut (fun k _ e => by subst e; unfold MutB; rw [ha.tag]; trivial)), fun k hk => ?_⟩
  · rcases h.own with h1 | h1
    · exact .inl h1
    · right
      have hBW : B < W.heap.size := (h.ro B (by rw [h1]; exact fun h => nomatch h)).2
      rw [hsame B hBW (fun m e => by rw [h1] at e; cases e) (fun e => by rw [h1] at e; cases e), h1]
  · by_cases hkW : k < W.heap.size
    · have h1 : o k ≠ .none := fun e => by
        rcases oold k hkW with e2 | ⟨e2, _⟩
        · rw [e2, e] at hk; exact hk rfl
        · exact hk e2
      exact ⟨(h.ro k h1).1, Nat.lt_of_lt_of_le hkW (Nat.le_trans hb.size hbut.size)⟩
    · refine ⟨fun hR => hkW (h.rlt k hR), Nat.lt_of_lt_of_le ?_ hbut.size⟩
      unfold retag at hk
      split at hk
      · have := hf.hsb.2.1; omega
      split at hk
      · rename_i _ hm
        exact (hf.lt hm).2
      · rw [hnew k hkW] at hk
        exact absurd rfl hk
  · unfold updS
    split
    · rfl
    · exact h.liv a1 j (hol a1 j e1)
  · rcases oold k hk with e | ⟨e, _⟩
    · exact .inl e
    · exact .inr e
end Go.Proofs.YtkghpapbifijcaaGreatDoor
