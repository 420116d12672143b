/- Words and walks that the laws below ask: Stk5, Stk6, Stk7, Stk8. -/
import Derived.BigQuiet
import Derived.Test.YtjmahmeionakaaaGreatDoorPk17
/- Seats that move to another configuration: plain facts, and a leg that changes its configuration in memory. -/
namespace Go.Proofs.YtjmahmeionakaaaGreatDoor
open Go.RowKit Go.Shelf Go.Maps Go.MapKept
set_option linter.unusedSimpArgs false
set_option linter.unusedVariables false

theorem cntC_sum : ∀ (l : List Cl) (s : List Int), s.length = l.length → sumI ((cntC l s).map Prod.snd) = sumI s
  | [], [], _ => rfl
  | [], y :: s, h => by simp at h
  | x :: l, [], h => by simp at h
  | x :: l, y :: s, h => by
    have ih := cntC_sum l s (by simpa using h)
    unfold cntC at ih ⊢
    simp only [List.zip_cons_cons, List.map_cons, sumI] at ih ⊢
    rw [ih]
theorem cntB_sum : ∀ (l : List Cb) (so : List (List Int)), so.length = l.length → (∀ (i : Nat) (b : Cb) (s : List Int), l[i]? = some b → so[i]? = some s → s.length = b.l.length) → sumI ((cntB l so).map Prod.snd) = totP so
  | [], [], _, _ => rfl
  | [], y :: s, h, _ => by simp at h
  | x :: l, [], h, _ => by simp at h
  | b :: l, s :: so, h, he => by
    have ih := cntB_sum l so (by simpa using h) (fun i c t hc ht => he (i + 1) c t (by simpa using hc) (by simpa using ht))
    have h1 := cntC_sum b.l s (he 0 b s rfl rfl)
    unfold cntB totP at ih ⊢
    simp only [List.zip_cons_cons, List.flatMap_cons, List.map_append, List.map_cons, sumI, sumI_app] at ih ⊢
    rw [ih, h1]
theorem cntB_mem {l : List Cb} {so : List (List Int)} {x : ByteArray × Int} (h : x ∈ cntB l so) : ∃ b ∈ l, ∃ y ∈ b.l, x.1 = y.code ∧ ∃ s ∈ so, x.2 ∈ s := by
  unfold cntB at h
  obtain ⟨p, hp, hx⟩ := List.mem_flatMap.1 h
  unfold cntC at hx
  obtain ⟨r, hr, rfl⟩ := List.mem_map.1 hx
  exact ⟨p.1, (List.of_mem_zip hp).1, r.1, (List.of_mem_zip hr).1, rfl, p.2, (List.of_mem_zip hp).2, (List.of_mem_zip hr).2⟩
theorem like_ok {la lb : List Cb} {s : ByteArray} (h : plB la s = true) (h0 : 0 < lb.length) (h1 : ∀ b ∈ lb, 0 < b.l.length) : (lkR la lb s).2 = true ∧ plB lb (lkR la lb s).1 = true := by
  have h2 : (lkR la lb s).2 = true := by
    unfold lkR
    rw [if_pos ⟨h, h0⟩]
    split
    · rfl
    · rw [if_pos ?_]
      have hi := pl_in h
      have hb : (min (plI la s) ((lb.length : Int) - 1)).toNat < lb.length := by
        have := Int.min_le_right (plI la s) ((lb.length : Int) - 1)
        omega
      unfold lkC
      rw [List.getElem?_eq_getElem hb]
      exact h1 _ (List.getElem_mem hb)
  exact ⟨h2, (lk_facts h2).1⟩
/-- what has moved after k classes -/
theorem OkL.mv {K : Int} {q : Lg} (h : OkL K q) {f : Cf} (hf : GoodF f) : ∀ k, OkL (sumI ((q.counts.take k).map Prod.snd)) ⟨f, mvP q.f f (q.counts.take k), false⟩
  | 0 => OkL.new (by simp [sumI]) hf
  | k + 1 => by
    have ih := OkL.mv h hf k
    cases hx : q.counts[k]? with
    | none =>
      rw [List.take_add_one, hx]
      simpa using ih
    | some x =>
      obtain ⟨b, hb, y, hy, e1, s, hs, e2⟩ := cntB_mem (List.mem_of_getElem? hx)
      have hx0 : 0 ≤ x.2 := h.low s hs _ e2
      have hpl : plB q.f.l x.1 = true := by rw [e1]; exact pl_of_mem hb hy
      obtain ⟨h2, h3⟩ := like_ok (lb := f.l) hpl hf.2.2.2.1 hf.2.2.2.2
      have hadd := OkL.add ih (c := (lkR q.f.l f.l x.1).1) h3 (m := x.2) (by have := OkL.sold0 ih (c := (lkR q.f.l f.l x.1).1) h3; omega)
      rw [List.take_add_one, hx]
      have e3 : mvP q.f f (q.counts.take k ++ (some x).toList) = mv1 q.f f (mvP q.f f (q.counts.take k)) x := by
        unfold mvP
        rw [List.foldl_append]
        rfl
      rw [e3, List.map_append, sumI_app]
      have e4 : sumI (((some x).toList).map Prod.snd) = max x.2 0 := by
        show x.2 + 0 = _
        rw [Int.max_def]; split <;> omega
      rw [e4]
      exact hadd
theorem OkL.resize {K : Int} {q : Lg} (h : OkL K q) {f : Cf} (hf : GoodF f) : OkL K (q.resize f) := by
  have h1 := OkL.mv h hf q.counts.length
  rw [List.take_length] at h1
  have h2 : sumI (q.counts.map Prod.snd) = totP q.so := cntB_sum q.f.l q.so h.len h.each
  rw [h2] at h1
  have h3 := h1.mono h.tot
  exact ⟨h3.right, h3.small, h3.ok, h3.pos, h3.cls, h3.len, h3.each, h3.low, h3.tot⟩
theorem FrS.store {N : Nat} {w : World} {v : Value} {so : List (List Int)} {sb : Nat} {fs : List Nat} (h : FrS N w v so sb fs) {ci ck r : Nat} {s : List Int} (hs : so[ci]? = some s) (hck : ck < s.length) (hr : fs[ci]? = some r) (hrow : Row w r s) (y : Int) : FrS N (w.setCell ⟨r, ck, none⟩ (.int .i64 y)) v (so.set ci (s.set ck y)) sb fs := by
  have hbut := But.setCell w r ck (.int .i64 y)
  have hsr : sb ≠ r := fun e => h.hsb.2.2 (by rw [e]; exact List.mem_of_getElem? hr)
  refine ⟨by rw [List.length_set]; exact h.hv, ⟨h.hsb.1, Nat.lt_of_lt_of_le h.hsb.2.1 hbut.size, h.hsb.2.2⟩, by rw [List.length_set]; exact h.hfs, fun k t hk => ?_⟩
  rw [List.getElem?_set] at hk
  by_cases e : ci = k
  · subst e
    rw [if_pos rfl] at hk
    split at hk
    · cases hk
      obtain ⟨r', c', h1, h2, h3, h4⟩ := h.hrow ci s hs
      rw [hr] at h1
      cases h1
      exact ⟨r, c', hr, by rw [List.length_set]; exact but_cell hbut h2 hsr, h3, hrow.set ck hck y⟩
    · cases hk
  · rw [if_neg e] at hk
    obtain ⟨r', c', h1, h2, h3, h4⟩ := h.hrow k t hk
    have hrr : r' ≠ r := fun e2 => by
      subst e2
      obtain ⟨g1, g2⟩ := List.getElem?_eq_some_iff.1 h1
      obtain ⟨g3, g4⟩ := List.getElem?_eq_some_iff.1 hr
      have e5 := h.hfs.2.idxOf_getElem k g1
      have e6 := h.hfs.2.idxOf_getElem ci g3
      rw [g2] at e5
      rw [g4] at e6
      exact e (e6.symm.trans e5)
    exact ⟨r', c', h1, but_cell hbut h2 hsr, h3, h4.but hbut hrr⟩
theorem LegM.upd2 {w w' : World} {X : Nat → Prop} {o o' : Own'} {b n : Nat} {g : Stk} (h : LegM w o b n g) (hb : But w w' X) {i : Lid} {a : Nat} {q q' : Lg} (hq : g i = some q) (ha' : LegAt w' o' i a q') (hbX : ¬ X b) (hX : ∀ k j, j ≠ i → X k → (∀ m, o k ≠ .row j m) ∧ o k ≠ .sl j ∧ o k ≠ .leg j) (ho : ∀ k j, k < w'.heap.size → j ≠ i → (o k = .leg j ∨ o k = .sl j ∨ ∃ m, o k = .row j m) → o' k = o k)
    (hu : ∀ a2, o a2 = .leg i → a2 = a) : LegM w' o' b n (updS g i q') := by
  obtain ⟨hh, ⟨es, clock, h1, h2⟩, h3⟩ := h
  refine ⟨hh, ⟨es, clock, (hb.block b (Array.getElem?_eq_some_iff.1 h1).1 hbX).trans h1, h2⟩, fun j => ?_⟩
  unfold updS
  by_cases e : j = i
  · subst e
    rw [if_pos rfl]
    have h4 := h3 j
    rw [hq] at h4
    obtain ⟨a2, e2, h5⟩ := h4
    obtain rfl := hu a2 h5.tag
    exact ⟨a2, e2, ha'⟩
  · rw [if_neg e]
    have h4 := h3 j
    revert h4
    cases g j with
    | none => exact id
    | some p =>
      rintro ⟨a2, e2, h5⟩
      exact ⟨a2, e2, (h5.but hb (fun k hk => hX k j e hk)).own (fun k hk hh => ho k j hk e hh)⟩
/-- a leg changes its configuration -/
theorem StkAt.resized {W w7 : World} {R : Nat → Prop} {o : Own'} {B n : Nat} {cs : List Cf} {g : Stk} (h : StkAt W R o B n cs g) {i : Lid} {a : Nat} {q : Lg} (hq : g i = some q) (ha : LegAt W o i a q) {f : Cf} {so : List (List Int)} {v : Value} {sb : Nat} {fs : List Nat} (hf : FrS W.heap.size w7 v so sb fs) (hb : Below W.heap.size W w7) {w9 : World}
    (hbut : But w7 w9 (fun k => k = a)) (c0 : w9.cell? ⟨a, 0, none⟩ = some (.string f.equip)) (c1 : w9.cell? ⟨a, 1, none⟩ = some (.slice f.A f.l.length f.c)) (c2 : w9.cell? ⟨a, 2, none⟩ = some v) (c3 : w9.cell? ⟨a, 3, none⟩ = some (.bool q.cl)) (hfz : ∀ j, w9.frozen? ⟨a, j, none⟩ = false) :
    ∃ o', StkAt w9 R o' B n cs (updS g i ⟨f, so, q.cl⟩) ∧ But W w9 (MutB o) ∧ Ext W o o' := by
  have h7 := h.more hb
  have haW : a < W.heap.size := ha.lt
  have hold : ∀ k, k < W.heap.size → k ≠ sb ∧ k ∉ fs := fun k hk => ⟨by have := hf.hsb.1; omega, fun hm => by have := (hf.lt hm).1; omega⟩
  have oold : ∀ k, k < W.heap.size → retag o i sb fs k = o k ∨ (retag o i sb fs k = .none ∧ (o k = .sl i ∨ ∃ m, o k = .row i m)) := fun k hk => retag_old (hold k hk).1 (hold k hk).2
  have hnew : ∀ k, ¬ k < W.heap.size → o k = .none := fun k hk => by
    cases e : o k with
    | none => rfl
    | _ => exact absurd ((h.ro k (by rw [e]; exact fun h => nomatch h)).2) hk
  have hsame : ∀ k, k < W.heap.size → (∀ m, o k ≠ .row i m) → o k ≠ .sl i → retag o i sb fs k = o k := fun k hk h1 h2 => by
    rcases oold k hk with e | ⟨_, e | ⟨m, e⟩⟩
    · exact e
    · exact absurd e h2
    · exact absurd e (h1 m)
  have oa : retag o i sb fs a = .leg i := by rw [hsame a haW (fun m e => by rw [ha.tag] at e; cases e) (fun e => by rw [ha.tag] at e; cases e), ha.tag]
  have osb : retag o i sb fs sb = .sl i := by unfold retag; rw [if_pos rfl]
  have ofs : ∀ k ∈ fs, retag o i sb fs k = .row i (fs.idxOf k) := fun k hk => by
    have hksb : ¬ k = sb := fun e => hf.hsb.2.2 (by rw [← e]; exact hk)
    unfold retag
    rw [if_neg hksb, if_pos hk]
  have hol : ∀ k j, retag o i sb fs k = .leg j → o k = .leg j := fun k j e => by
    unfold retag at e
    split at e
    · cases e
    split at e
    · cases e
    split at e
    · split at e <;> cases e
    · split at e <;> cases e
    · exact e
  have hf9 : FrS W.heap.size w9 v so sb fs := hf.but hbut (fun k e => by subst e; exact hold k haW)
  have hLeg : LegAt w9 (retag o i sb fs) i a ⟨f, so, q.cl⟩ := ⟨oa, Nat.lt_of_lt_of_le haW (Nat.le_trans hb.size hbut.size), c0, c1, ⟨v, c2, hf9.sold osb ofs⟩, c3, hfz⟩
  obtain ⟨mc, ml, nc, x0, x1, r1, r2, r3, r4, hM⟩ := h7.box
  have haR : ¬ R a := (h.ro a (by rw [ha.tag]; exact fun h => nomatch h)).1
  have hBa : B ≠ a := fun e => by
    rcases h.own with h1 | h1
    · exact haR (e ▸ h1)
    · rw [e, ha.tag] at h1; cases h1
  have hmla : ml ≠ a := fun e => by rw [e, ha.tag] at r4; cases r4
  have hmlW : ml < W.heap.size := by
    by_cases e : ml < W.heap.size
    · exact e
    · rw [hnew _ e] at r4; cases r4
  have oml : retag o i sb fs ml = .map := by rw [hsame ml hmlW (fun m e => by rw [r4] at e; cases e) (fun e => by rw [r4] at e; cases e), r4]
  have hM9 := hM.upd2 hbut hq hLeg (fun e => hmla e) (fun k j hj e => by subst e; rw [ha.tag]; exact ⟨fun m h => (nomatch h), fun h => (nomatch h), fun h => by injection h with h; exact hj h.symm⟩) (fun k j hk hj hh => by
    have hkW : k < W.heap.size := by
      by_cases e : k < W.heap.size
      · exact e
      · rw [hnew k e] at hh; rcases hh with h | h | ⟨_, h⟩ <;> cases h
    refine hsame k hkW (fun m e => ?_) (fun e => ?_) <;> rcases hh with h | h | ⟨_, h⟩ <;> rw [h] at e <;> first | (simp at e; done) | (simp at e; first | exact hj e | exact hj e.1)) (fun a2 e => h.uniq a2 a i e ha.tag)
  refine ⟨retag o i sb fs, ⟨⟨mc, ml, nc, but_cell hbut x0 hBa, but_cell hbut x1 hBa, r1, r2.same (hbut.block mc r2.lt (fun e => haR (e ▸ r1))), r3, oml, hM9⟩, ?_, fun f' hf' => ⟨(h7.cfs f' hf').1.but hbut (fun k hk => by rw [hk]; exact haR), (h7.cfs f' hf').2⟩, fun k hk => ?_, fun k hk => Nat.lt_of_lt_of_le (h7.rlt k hk) hbut.size, fun a1 b1 j e1 e2 => h.uniq a1 b1 j (hol a1 j e1) (hol b1 j e2), fun a1 j e1 => ?_⟩, ((But.of_below (X := MutB o) hb).trans hbut (fun k _ e => by subst e; unfold MutB; rw [ha.tag]; trivial)), fun k hk => ?_⟩
  · rcases h.own with h1 | h1
    · exact .inl h1
    · right
      have hBW : B < W.heap.size := (h.ro B (by rw [h1]; exact fun h => nomatch h)).2
      rw [hsame B hBW (fun m e => by rw [h1] at e; cases e) (fun e => by rw [h1] at e; cases e), h1]
  · by_cases hkW : k < W.heap.size
    · have h1 : o k ≠ .none := fun e => by
        rcases oold k hkW with e2 | ⟨e2, _⟩
        · rw [e2, e] at hk; exact hk rfl
        · exact hk e2
      exact ⟨(h.ro k h1).1, Nat.lt_of_lt_of_le hkW (Nat.le_trans hb.size hbut.size)⟩
    · refine ⟨fun hR => hkW (h.rlt k hR), Nat.lt_of_lt_of_le ?_ hbut.size⟩
      unfold retag at hk
      split at hk
      · have := hf.hsb.2.1; omega
      split at hk
      · rename_i _ hm
        exact (hf.lt hm).2
      · rw [hnew k hkW] at hk
        exact absurd rfl hk
  · unfold updS
    split
    · rfl
    · exact h.liv a1 j (hol a1 j e1)
  · rcases oold k hk with e | ⟨e, _⟩
    · exact .inl e
    · exact .inr e
end Go.Proofs.YtjmahmeionakaaaGreatDoor

/- Resize. -/
namespace Go.Proofs.YtjmahmeionakaaaGreatDoor
open Go.RowKit Go.Shelf Go.Maps Go.MapKept
set_option linter.unusedSimpArgs false
set_option linter.unusedVariables false

theorem ct_new (w : World) (x : ByteArray × Int) : (w.alloc (.cells #[.string x.1, .int .i64 x.2] cntT)).cell? ⟨w.heap.size, 0, none⟩ = some (.string x.1) ∧ (w.alloc (.cells #[.string x.1, .int .i64 x.2] cntT)).cell? ⟨w.heap.size, 1, none⟩ = some (.int .i64 x.2) :=
  ⟨(cells_new w _ cntT 0).trans rfl, (cells_new w _ cntT 1).trans rfl⟩
/-- one step of the move, as a change of a leg -/
theorem mv_step {q : Lg} {f : Cf} {k : Nat} {x : ByteArray × Int} (hx : q.counts[k]? = some x) : mvP q.f f (q.counts.take (k + 1)) = ((⟨f, mvP q.f f (q.counts.take k), false⟩ : Lg).add (lkR q.f.l f.l x.1).1 x.2).so := by
  rw [List.take_add_one, hx]
  unfold mvP
  rw [List.foldl_append]
  rfl
set_option maxRecDepth 100000 in
set_option maxHeartbeats 16000000 in
theorem lresize_any (R : Nat → Prop) (o : Own') (B n : Nat) (cs : List Cf) (g : Stk) (K : Int) (i : Lid) (s : ByteArray) (w : World) (hS : StkAt w R o B n cs g) (hG : OkG K cs g) (hK : K ≤ 1000000000000) (hi : OkD i) (hs : s.size ≤ maxLen) :
    Calls Tryz.prog 29 #[.pointer (some ⟨B, 0, none⟩), aggD i, .string s] w fun e w' => e = .returned (.int .i64 (rszE cs g i s)) ∧ (∃ o', StkAt w' R o' B n cs (rszG cs g i s) ∧ Ext w o o') ∧ But w w' (MutB o) ∧ OkG K cs (rszG cs g i s) := by
  have hbA := bel_alloc w (.cells #[.string i.car, .int .i64 i.num, .int .i64 i.day, .string i.frm] lidT)
  have hS' := hS.more hbA
  obtain ⟨l0, l1, l2, l3⟩ := lid_new w i
  have HS := Lib.hid hS'
  obtain ⟨mc, ml, nc, c0, c1, _, hmc, _, _, hM⟩ := hS'.box
  have K0 := Lib.hid (isVoid_no B ml _ c1)
  have HLK : Hid (∀ W, SW (w.alloc (.cells #[.string i.car, .int .i64 i.num, .int .i64 i.day, .string i.frm] lidT)) W → (Instr.lookup cfmT (.map (some mc)) (.string s) true).run Tryz.prog W = .ok (.tuple #[aggCf ((findQ cs s).getD cfZ), .bool (findQ cs s).isSome]) W) := Lib.hid (fun W h => cfg_look (hmc.more h) hs)
  have HG := Lib.hid hG
  unfold rszE rszG
  cases hq : g i with
  | none =>
    have K1 : Hid (∀ W, StkAt W R o B n cs g → Calls Tryz.prog 56 #[.pointer (some ⟨B, 0, none⟩), aggD i] W fun e w' => e = .returned (.pointer none) ∧ Below W.heap.size W w') := Lib.hid (fun W h => (lfind_any R o B n cs g i W h hi).mono (by
      rintro e w' ⟨⟨p, rfl, hp⟩, hb⟩
      rw [hq] at hp
      obtain rfl := hp
      exact ⟨rfl, hb⟩))
    rw [if_neg (by simp)]
    generalize findQ cs s = fq at *
    clear hS hS' hq hM hG hmc
    go_enter Tryz.func29, Tryz.ntmps29
    go_upto_region 1 with fail
    generalize w.alloc (.cells #[.string i.car, .int .i64 i.num, .int .i64 i.day, .string i.frm] lidT) = w5 at *
    go_upto_region 4 with (first
      | (go_at_call 67; refine K0.out.mono ?_; rintro e w4 ⟨rfl, rfl⟩)
      | (go_at_call 56; refine (K1.out _ HS.out).mono ?_; rintro e w6 ⟨rfl, hb6⟩))
    have hlk := HLK.out w6 hb6
    have c0 := bel_cell hb6 c0
    obtain ⟨fe, fA, fn, fc, hz⟩ : ∃ (fe : ByteArray) (fA : Option Addr) (fn fc : Nat), aggCf (fq.getD cfZ) = .agg #[.string fe, .slice fA fn fc] := ⟨_, _, _, _, rfl⟩
    rw [hz] at hlk
    clear hz
    generalize fq.isSome = bq at hlk
    go_wp2
    go_ret
    exact ⟨rfl, ⟨o, (HS.out.more hb6).more (bel_alloc _ _), Ext.refl _ _⟩, But.of_below ((hbA.trans (hb6.mono hbA.size)).trans ((bel_alloc _ _).mono (hbA.trans (hb6.mono hbA.size)).size)), HG.out⟩
  | some q =>
  obtain ⟨hL, hqf⟩ := hG.leg i q hq
  have K1 : Hid (∀ W, StkAt W R o B n cs g → Calls Tryz.prog 56 #[.pointer (some ⟨B, 0, none⟩), aggD i] W fun e w' => ∃ a, e = .returned (.pointer (some ⟨a, 0, none⟩)) ∧ LegAt w' o i a q ∧ Below W.heap.size W w') := Lib.hid (fun W h => (lfind_any R o B n cs g i W h hi).mono (by
    rintro e w' ⟨⟨p, rfl, hp⟩, hb⟩
    rw [hq] at hp
    obtain ⟨a, rfl, ha⟩ := hp
    exact ⟨a, rfl, ha, hb⟩))
  cases hf : findQ cs s with
  | none =>
    rw [hf] at HLK
    rw [if_neg (by simp)]
    dsimp only
    clear hS hS' hq hM hG hmc hf hL
    go_enter Tryz.func29, Tryz.ntmps29
    go_upto_region 1 with fail
    generalize w.alloc (.cells #[.string i.car, .int .i64 i.num, .int .i64 i.day, .string i.frm] lidT) = w5 at *
    go_upto_region 4 with (first
      | (go_at_call 67; refine K0.out.mono ?_; rintro e w4 ⟨rfl, rfl⟩)
      | (go_at_call 56; refine (K1.out _ HS.out).mono ?_; rintro e w6 ⟨a, rfl, ha, hb6⟩))
    have hlk : (Instr.lookup cfmT (.map (some mc)) (.string s) true).run Tryz.prog w6 = .ok (.tuple #[.agg #[.string noB, .slice none 0 0], .bool false]) w6 := HLK.out w6 hb6
    have c0 := bel_cell hb6 c0
    clear ha
    go_wp2
    go_ret
    exact ⟨rfl, ⟨o, (HS.out.more hb6).more (bel_alloc _ _), Ext.refl _ _⟩, But.of_below ((hbA.trans (hb6.mono hbA.size)).trans ((bel_alloc _ _).mono (hbA.trans (hb6.mono hbA.size)).size)), HG.out⟩
  | some f =>
  rw [hf] at HLK
  have hfm := find_mem hf
  have hgd : GoodF f := (hS.cfs f hfm).2
  have hsm := hgd.2.1
  have hpos := hgd.2.2.2.1
  have HG2 : Hid (OkG K cs (updS g i (q.resize f))) := Lib.hid (hG.upd (hL.resize hgd) hfm)
  have HMV : Hid (∀ k, OkL (sumI ((q.counts.take k).map Prod.snd)) ⟨f, mvP q.f f (q.counts.take k), false⟩ ∧ sumI ((q.counts.take k).map Prod.snd) ≤ 1000000000000) := Lib.hid (fun k => ⟨hL.mv hgd k, by
    have h1 : sumI (q.counts.map Prod.snd) = totP q.so := cntB_sum q.f.l q.so hL.len hL.each
    have h2 := (sum_take_le (s := q.counts.map Prod.snd) (fun x hx => by
      obtain ⟨p, hp, rfl⟩ := List.mem_map.1 hx
      obtain ⟨_, _, _, _, _, t, ht, h3⟩ := cntB_mem hp
      exact hL.low t ht _ h3) k).2
    rw [← List.map_take] at h2
    have := hL.tot
    omega⟩)
  have HCT : Hid (∀ (k : Nat) (x : ByteArray × Int), q.counts[k]? = some x → plB q.f.l x.1 = true ∧ 0 ≤ x.2 ∧ x.2 ≤ 1000000000000) := Lib.hid (fun k x hx => by
    obtain ⟨b, hb, y, hy, e1, t, ht, e2⟩ := cntB_mem (List.mem_of_getElem? hx)
    refine ⟨by rw [e1]; exact pl_of_mem hb hy, hL.low t ht _ e2, ?_⟩
    have h1 := (tot_each hL.low t ht).2
    obtain ⟨j, hj, e3⟩ := List.getElem_of_mem e2
    have h2 := take_succ_sum (List.getElem?_eq_getElem hj)
    have h3 := sum_take_le (hL.low t ht) j
    have h4 := sum_take_le (hL.low t ht) (j + 1)
    have := hL.tot
    omega)
  have hqsm := hL.small
  have hcl : q.counts.length ≤ 1000 := by
    have h1 := cntB_le q.f.l q.so hqsm.2
    have h2 := hqsm.1
    show (cntB q.f.l q.so).length ≤ 1000
    omega
  have KU : Hid (∀ W, StkAt W R o B n cs g → Calls Tryz.prog 70 #[.agg #[.string f.equip, .slice f.A f.l.length f.c]] W fun e w' => ∃ v sb fs, e = .returned v ∧ FrS W.heap.size w' v (unsP f) sb fs ∧ Below W.heap.size W w') := Lib.hid (fun W h => (unsold_any f W (h.cfAt hfm) hsm).mono (by
    rintro e w' ⟨v, L, rfl, hU, hb⟩
    obtain ⟨sb, hfr⟩ := hU.fr hpos
    exact ⟨v, sb, _, rfl, hfr, hb⟩))
  have KCN : Hid (∀ W, StkAt W R o B n cs g → Calls Tryz.prog 26 #[.pointer (some ⟨B, 0, none⟩), aggD i] W fun e w' => ∃ v, e = .returned v ∧ ROwn cntT 2 encN' W.heap.size w' v q.counts ∧ Below W.heap.size W w') := Lib.hid (fun W h => counts_some R o B n cs g K i q W h hG hi hq)
  have KL : Hid (∀ W x, StkAt W R o B n cs g → Calls Tryz.prog 71 #[.agg #[.string q.f.equip, .slice q.f.A q.f.l.length q.f.c], .agg #[.string f.equip, .slice f.A f.l.length f.c], .string x] W fun e w' => e = .returned (.tuple #[.string (lkR q.f.l f.l x).1, .bool (lkR q.f.l f.l x).2]) ∧ Below W.heap.size W w') := Lib.hid (fun W x h => like_any q.f.equip f.equip q.f.A f.A q.f.c f.c q.f.l f.l x W (h.cfAt hqf) (h.cfAt hfm) hqsm.1 hsm.1 hqsm.2 hsm.2)
  have KP : Hid (∀ W x, StkAt W R o B n cs g → Calls Tryz.prog 72 #[.agg #[.string f.equip, .slice f.A f.l.length f.c], .string x] W fun e w' => e = .returned (.tuple #[.int .i64 (plI f.l x), .int .i64 (plK f.l x), .bool (plB f.l x)]) ∧ Below W.heap.size W w') := Lib.hid (fun W x h => place_any f.equip f.A f.c f.l x W (h.cfAt hfm) hsm.1 hsm.2)
  have HLO : Hid (∀ x, plB q.f.l x = true → plB f.l (lkR q.f.l f.l x).1 = true) := Lib.hid (fun x h => (like_ok (lb := f.l) h hpos hgd.2.2.2.2).2)
  have HGS := Lib.hid hG
  rw [if_pos (by simp)]
  dsimp only
  clear hS hS' hM hG hmc hf hL hsm hqsm hgd
  go_enter Tryz.func29, Tryz.ntmps29
  go_upto_region 1 with fail
  generalize w.alloc (.cells #[.string i.car, .int .i64 i.num, .int .i64 i.day, .string i.frm] lidT) = w5 at *
  go_upto_region 4 with (first
    | (go_at_call 67; refine K0.out.mono ?_; rintro e w4 ⟨rfl, rfl⟩)
    | (go_at_call 56; refine (K1.out _ HS.out).mono ?_; rintro e w6 ⟨a, rfl, ha, hb6⟩))
  have hlk : (Instr.lookup cfmT (.map (some mc)) (.string s) true).run Tryz.prog w6 = .ok (.tuple #[.agg #[.string f.equip, .slice f.A f.l.length f.c], .bool true]) w6 := HLK.out w6 hb6
  have hb06 := hbA.trans (hb6.mono hbA.size)
  have hbC := bel_alloc w6 (.cells #[.string f.equip, .slice f.A f.l.length f.c] cfT)
  have hb56 := hb6.trans (hbC.mono hb6.size)
  have HB8 := Lib.hid (hb06.trans (hbC.mono hb06.size))
  have HS8 := Lib.hid (HS.out.more hb56)
  have HA8 := Lib.hid (ha.but (Below.but (fun _ => False) hbC) (fun k hk => hk.elim))
  have c0 := bel_cell hb6 c0
  have x0 := (cells_new w6 #[.string f.equip, .slice f.A f.l.length f.c] cfT 0).trans (show _ = some (Value.string f.equip) from rfl)
  have x1 := (cells_new w6 #[.string f.equip, .slice f.A f.l.length f.c] cfT 1).trans (show _ = some (Value.slice f.A f.l.length f.c) from rfl)
  have y0 := bel_cell hb56 l0
  have y1 := bel_cell hb56 l1
  have y2 := bel_cell hb56 l2
  have y3 := bel_cell hb56 l3
  obtain ⟨xb, hxb⟩ : ∃ xb, xb = w6.heap.size := ⟨_, rfl⟩
  have HXB := Lib.hid hxb
  rw [← hxb] at x0 x1
  clear ha hb06 hbC
  go_upto_region 7 with fail
  rw [← hxb]
  have HXL : Hid (xb < (w6.alloc (.cells #[.string f.equip, .slice f.A f.l.length f.c] cfT)).heap.size) := Lib.hid (by rw [hxb]; simp)
  clear hxb hlk c0
  generalize w6.alloc (.cells #[.string f.equip, .slice f.A f.l.length f.c] cfT) = w8 at *
  go_upto_region 8 with (go_at_call 70; refine (KU.out _ HS8.out).mono ?_; rintro e w9 ⟨v, sb, fs, rfl, hfr, hb9⟩)
  obtain ⟨sc, rfl⟩ := id hfr.hv
  have y0 := bel_cell hb9 y0
  have y1 := bel_cell hb9 y1
  have y2 := bel_cell hb9 y2
  have y3 := bel_cell hb9 y3
  have HS9 := Lib.hid (HS8.out.more hb9)
  go_upto_region 9 with (go_at_call 26; refine (KCN.out _ HS9.out).mono ?_; rintro e w10 ⟨cv, rfl, hcv, hb10⟩; obtain ⟨A2, c2, rfl, _⟩ := id (hcv.rowL rowN.len))
  have hsz8 : w8.heap.size ≤ w9.heap.size := hb9.size
  have hb810 := hb9.trans (hb10.mono hb9.size)
  have hfr10 := hfr.more hb10
  have HCV : Hid (∀ W, But w10 W (fun j => j ∈ fs) → ∀ (k : Nat) (x : ByteArray × Int), q.counts[k]? = some x → ∃ b o', A2 = some ⟨b, o', none⟩ ∧ W.cell? ⟨b, o' + k * 2, none⟩ = some (.string x.1) ∧ W.cell? ⟨b, o' + k * 2 + 1, none⟩ = some (.int .i64 x.2)) := Lib.hid (fun W hW k x hx => by
    obtain ⟨b, o', e, _, hc⟩ := row_get (hcv.rowL rowN.len) hx
    subst e
    have hlo := (hcv.low (k := b) rfl).1
    have hb : b ∉ fs := fun hm => by have := (hfr.lt hm).2; omega
    have h0 := hc 0 _ rfl
    rw [Nat.add_zero] at h0
    exact ⟨b, o', rfl, but_cell hW h0 hb, but_cell hW (hc 1 _ rfl) hb⟩)
  have hA10 := HA8.out.but (Below.but (fun _ => False) hb810) (fun k hk => hk.elim)
  have haf : a ∉ fs := fun hm => by have := (hfr.lt hm).1; have := HA8.out.lt; omega
  have hxf : xb ∉ fs := fun hm => by have := (hfr.lt hm).1; have := HXL.out; omega
  have HLG : Hid (∀ W, But w10 W (fun j => j ∈ fs) → W.cell? ⟨a, 0, none⟩ = some (.string q.f.equip) ∧ W.cell? ⟨a, 1, none⟩ = some (.slice q.f.A q.f.l.length q.f.c) ∧ W.cell? ⟨a, 3, none⟩ = some (.bool q.cl) ∧ (∀ j, W.frozen? ⟨a, j, none⟩ = false) ∧ W.cell? ⟨xb, 0, none⟩ = some (.string f.equip) ∧ W.cell? ⟨xb, 1, none⟩ = some (.slice f.A f.l.length f.c)) := Lib.hid (fun W hW =>
    ⟨but_cell hW hA10.c0 haf, but_cell hW hA10.c1 haf, but_cell hW hA10.c3 haf, fun j => (but_froz (a := ⟨a, j, none⟩) hW hA10.lt haf).trans (hA10.froz j), but_cell hW (bel_cell hb810 x0) hxf, but_cell hW (bel_cell hb810 x1) hxf⟩)
  have HSX : Hid (∀ W, But w10 W (fun j => j ∈ fs) → StkAt W R o B n cs g) := Lib.hid (fun W hW => (HS8.out.more hb810).same hW (fun k hk => by
    have h1 := (hfr.lt hk).1
    constructor
    · cases e : o k with
      | none => rfl
      | _ => exact absurd ((HS8.out.ro k (by rw [e]; exact fun h => nomatch h)).2) (by omega)
    · exact fun hR => by have := HS8.out.rlt k hR; omega))
  have HBL : Hid (∀ W, But w10 W (fun j => j ∈ fs) → Below w8.heap.size w8 W) := Lib.hid (fun W hW => hb810.trans (hW.below hb810.size (fun k hk hm => by have := (hfr.lt hm).1; omega)))
  have HST : Hid (FrS w8.heap.size w10 (.slice (some ⟨sb, 0, none⟩) (unsP f).length sc) (mvP q.f f (q.counts.take 0)) sb fs ∧ But w10 w10 (fun j => j ∈ fs)) := Lib.hid ⟨hfr10, But.refl _ _⟩
  have HUN : Hid (0 < (unsP f).length ∧ (unsP f).length = f.l.length) := Lib.hid (by unfold unsP; rw [List.length_map]; exact ⟨hpos, rfl⟩)
  have HFM : Hid (f ∈ cs) := Lib.hid hfm
  have HQ0 : Hid (LegAt w8 o i a q ∧ g i = some q) := Lib.hid ⟨HA8.out, hq⟩
  generalize (unsP f).length = un at *
  obtain ⟨cn, hcn⟩ : ∃ cn, cn = q.counts.length := ⟨_, rfl⟩
  have HCNT := Lib.hid hcn
  rw [← hcn] at hcl
  have HEND : Hid (q.counts.take cn = q.counts) := Lib.hid (by rw [hcn, List.take_length])
  have HRS : Hid (updS g i ⟨f, mvP q.f f q.counts, q.cl⟩ = updS g i (q.resize f)) := Lib.hid rfl
  rw [← hcn]
  clear hcn hcv hfr hfr10 hA10 haf hxf hb810 hq hfm hqf hsz8 hb9 hb10 x0 x1 y0 y1 y2 y3 hb56 hpos
  go_wp2
  go_loopw [44] (fun vi wr => ∃ k : Nat, k ≤ cn ∧ vi = .int .i64 k ∧ Hid (FrS w8.heap.size wr (.slice (some ⟨sb, 0, none⟩) un sc) (mvP q.f f (q.counts.take k)) sb fs ∧ But w10 wr (fun j => j ∈ fs))) (fun vi _ => cn - (intOf vi).toNat)
  case atStart => exact ⟨0, Nat.zero_le _, rfl, HST⟩
  case round =>
    obtain ⟨k, hk, rfl, HH⟩ := hrel
    by_cases hlt : k < cn
    · obtain ⟨x, hx⟩ : ∃ x, q.counts[k]? = some x := ⟨_, List.getElem?_eq_getElem (by have := HCNT.out; omega)⟩
      obtain ⟨b2, o2, eA2, z0, z1⟩ := HCV.out wr HH.out.2 k x hx
      rw [eA2]
      obtain ⟨g0, g1, _, _, g4, g5⟩ := HLG.out wr HH.out.2
      obtain ⟨hp1, hx0, hx1⟩ := HCT.out k x hx
      have hp2 := HLO.out x.1 hp1
      obtain ⟨hOK, hOKb⟩ := HMV.out k
      obtain ⟨b, s0, y, hP⟩ := hOK.plc (c := (lkR q.f.l f.l x.1).1) hp2
      have hy0 := hOK.sold0 (c := (lkR q.f.l f.l x.1).1) hp2
      rw [hP.sold] at hy0
      have hy1 : y ≤ 1000000000000 := by
        have hlow := hOK.low s0 (List.mem_of_getElem? hP.hs)
        have h1 := (tot_each hOK.low s0 (List.mem_of_getElem? hP.hs)).2
        have h2 := take_succ_sum hP.hx
        have h3 := sum_take_le hlow ((⟨f, mvP q.f f (q.counts.take k), false⟩ : Lg).ck (lkR q.f.l f.l x.1).1)
        have h4 := sum_take_le hlow ((⟨f, mvP q.f f (q.counts.take k), false⟩ : Lg).ck (lkR q.f.l f.l x.1).1 + 1)
        have h5 := hOK.tot
        dsimp only at *
        omega
      have HMS : Hid (mvP q.f f (q.counts.take (k + 1)) = (mvP q.f f (q.counts.take k)).set ((⟨f, mvP q.f f (q.counts.take k), false⟩ : Lg).ci (lkR q.f.l f.l x.1).1) (s0.set ((⟨f, mvP q.f f (q.counts.take k), false⟩ : Lg).ck (lkR q.f.l f.l x.1).1) (y + x.2))) := Lib.hid (by
        rw [mv_step hx]
        show addS _ _ _ _ = _
        rw [addS_at _ _ hP.hs, wiL_get x.2 hP.hx])
      have e1 := hP.hi
      have e2 := hP.hk
      have hls := hP.lt
      have hlen := hP.len
      have hpx := hP.hx
      have hps := hP.hs
      have hlso := (List.getElem?_eq_some_iff.1 hP.hs).1
      have hlun : un = (mvP q.f f (q.counts.take k)).length := by
        obtain ⟨c', hc'⟩ := HH.out.1.hv
        simp only [Value.slice.injEq] at hc'
        exact hc'.2.1
      generalize (⟨f, mvP q.f f (q.counts.take k), false⟩ : Lg).ci (lkR q.f.l f.l x.1).1 = ni at *
      generalize (⟨f, mvP q.f f (q.counts.take k), false⟩ : Lg).ck (lkR q.f.l f.l x.1).1 = nk at *
      change (mvP q.f f (q.counts.take k))[ni]? = some s0 at hps
      change ni < (mvP q.f f (q.counts.take k)).length at hlso
      change (ni : Int) = plI f.l (lkR q.f.l f.l x.1).1 at e1
      change (nk : Int) = plK f.l (lkR q.f.l f.l x.1).1 at e2
      have KPx : Hid (∀ W, StkAt W R o B n cs g → Calls Tryz.prog 72 #[.agg #[.string f.equip, .slice f.A f.l.length f.c], .string (lkR q.f.l f.l x.1).1] W fun e w' => e = .returned (.tuple #[.int .i64 (ni : Int), .int .i64 (nk : Int), .bool true]) ∧ Below W.heap.size W w') := Lib.hid (fun W h => by
        have := KP.out W (lkR q.f.l f.l x.1).1 h
        rw [hp2, ← e1, ← e2] at this
        exact this)
      have hbD := bel_alloc wr (.cells #[.string x.1, .int .i64 x.2] cntT)
      obtain ⟨t0, t1⟩ := ct_new wr x
      have hD : But w10 (wr.alloc (.cells #[.string x.1, .int .i64 x.2] cntT)) (fun j => j ∈ fs) := HH.out.2.trans (But.of_below (X := fun j => j ∈ fs) hbD) (fun _ _ h => h)
      have hX : ∀ W, SW (wr.alloc (.cells #[.string x.1, .int .i64 x.2] cntT)) W → But w10 W (fun j => j ∈ fs) := fun W h => hD.trans (But.of_below (X := fun j => j ∈ fs) h) (fun _ _ h => h)
      have HX := Lib.hid hX
      obtain ⟨r, c', hr, d3, hrN, hrow⟩ := HH.out.1.hrow ni s0 hps
      have hkn : nk < s0.length := by rw [hlen]; exact hls
      have HFIN : Hid (∀ W, SW (wr.alloc (.cells #[.string x.1, .int .i64 x.2] cntT)) W → FrS w8.heap.size (W.setCell ⟨r, nk, none⟩ (.int .i64 (y + x.2))) (.slice (some ⟨sb, 0, none⟩) un sc) (mvP q.f f (q.counts.take (k + 1))) sb fs ∧ But w10 (W.setCell ⟨r, nk, none⟩ (.int .i64 (y + x.2))) (fun j => j ∈ fs)) := Lib.hid (fun W hW => by
        have hWr := hbD.trans (Below.mono hW hbD.size)
        refine ⟨?_, (HX.out W hW).trans (But.setCell W r nk (.int .i64 (y + x.2))) (fun j _ e => by subst e; exact List.mem_of_getElem? hr)⟩
        rw [HMS.out]
        exact (HH.out.1.more hWr).store hps hkn hr (hrow.more hWr) (y + x.2))
      have HSW := Lib.hid (fun W h => HSX.out W (HX.out W h))
      have q0 := bel_cell hbD g0
      have q1 := bel_cell hbD g1
      have q4 := bel_cell hbD g4
      have q5 := bel_cell hbD g5
      have d3' := bel_cell hbD d3
      have HROW := Lib.hid (hrow.more hbD)
      have hwr := IntWalk.i64_in (n := y + x.2) (by omega)
      have i1 : (k : Int) < (cn : Int) := by omega
      have i3 : (0 : Int) ≤ (ni : Int) := by omega
      have i4 : (ni : Int) < (un : Int) := by omega
      have i5 : (0 : Int) ≤ (nk : Int) := by omega
      have i6 : (nk : Int) < (s0.length : Int) := by omega
      have HPX := Lib.hid hpx
      clear hx hP hOK hp1 hp2 hps hlso hlun e1 e2 hls hlen hpx hD hX hbD hr hrN hrow g0 g1 g4 g5 d3 HH HMS hOKb
      have KLx := Lib.hid (fun W h => KL.out W x.1 h)
      generalize (lkR q.f.l f.l x.1).1 = cl2 at *
      obtain ⟨bl, hbl⟩ : ∃ bl, bl = (lkR q.f.l f.l x.1).2 := ⟨_, rfl⟩
      go_upto_region 11 with fail
      clear z0 z1
      generalize wr.alloc (.cells #[.string x.1, .int .i64 x.2] cntT) = w11 at *
      have u0 := SW.cell q0
      have u1 := SW.cell q1
      have u4 := SW.cell q4
      have u5 := SW.cell q5
      have u6 := SW.cell t0
      have KK : Hid (∀ W, SW w11 W → Calls Tryz.prog 71 #[.agg #[.string q.f.equip, .slice q.f.A q.f.l.length q.f.c], .agg #[.string f.equip, .slice f.A f.l.length f.c], .string x.1] W fun e w' => e = .returned (.tuple #[.string cl2, .bool bl]) ∧ SW w11 w') := Lib.hid (fun W h => (KLx.out W (HSW.out W h)).mono (by rintro e w' ⟨rfl, hb⟩; rw [← hbl]; exact ⟨rfl, Below.trans h (Below.mono hb h.size)⟩))
      clear q0 q1 t0 hbl
      have hNe : Nonempty (Wd (SW w11)) := ⟨⟨_, SW.drew _⟩⟩
      refine quietS (S := SW w11) (by kernel_rfl) (by kernel_rfl) (SW.drew _) ?_
      repeat (first | go_big_quiet_skip | (go_big_quiet_want; go_big_quiet_op; first | go_big_quiet_on | go_big_quiet_call ((go_at_call 71; exact quiet_S (KK.out _ (Wd.ok _))))))
      refine wpQuiet_nil ?_
      rintro W ⟨⟨_, hW⟩, rfl⟩
      have q4 := bel_cell hW q4
      have q5 := bel_cell hW q5
      clear u0 u1 u4 u5 u6
      go_upto_region 13 with (go_at_call 72; refine (KPx.out _ (HSW.out _ hW)).mono ?_; rintro e w12 ⟨rfl, hb12⟩)
      have hW12 : SW w11 w12 := Below.trans hW (Below.mono hb12 hW.size)
      have v0 := bel_cell hW12 d3'
      have v1 := bel_cell hW12 t1
      have hrow12 := HROW.out.more hW12
      have v2 := hrow12.at HPX.out
      have v3 := hrow12.froz nk (by omega)
      clear q4 q5 hW hb12 hrow12 d3' t1
      have HFN := Lib.hid (fun W h => HFIN.out W (Below.trans hW12 h))
      go_region
      have HZ := Lib.hid (HFN.out _ (Below.refl _ w12).drew)
      go_wp2
      go_roundw
      case rel => exact ⟨k + 1, by omega, by go_num, HZ⟩
      case measure => simp [intOf]; omega
    · obtain rfl : k = cn := by omega
      obtain ⟨g0, g1, g3, gz, g4, g5⟩ := HLG.out wr HH.out.2
      have gz0 := gz 0
      have gz1 := gz 1
      have gz2 := gz 2
      have HFIN : Hid (∀ w9, w9 = ((wr.setCell ⟨a, 0, none⟩ (.string f.equip)).setCell ⟨a, 1, none⟩ (.slice f.A f.l.length f.c)).setCell ⟨a, 2, none⟩ (.slice (some ⟨sb, 0, none⟩) un sc) → (∃ o', StkAt w9 R o' B n cs (updS g i (q.resize f)) ∧ Ext w o o') ∧ But w w9 (MutB o)) := Lib.hid (fun w9 hw9 => by
        have hb := HBL.out wr HH.out.2
        have hb1 := But.setCell wr a 0 (.string f.equip)
        have hb2 := But.setCell (wr.setCell ⟨a, 0, none⟩ (.string f.equip)) a 1 (.slice f.A f.l.length f.c)
        have hb3 := But.setCell ((wr.setCell ⟨a, 0, none⟩ (.string f.equip)).setCell ⟨a, 1, none⟩ (.slice f.A f.l.length f.c)) a 2 (.slice (some ⟨sb, 0, none⟩) un sc)
        have hbut : But wr w9 (fun k => k = a) := by rw [hw9]; exact (hb1.trans hb2 (fun _ _ h => h)).trans hb3 (fun _ _ h => h)
        have hfr := HH.out.1
        rw [HEND.out] at hfr
        obtain ⟨hla, hgq⟩ := HQ0.out
        obtain ⟨o', h1, h2, h3⟩ := HS8.out.resized hgq hla hfr hb hbut
          (by rw [hw9, World.cell?_setCell_other _ _ _ _ (by intro e; simp at e), World.cell?_setCell_other _ _ _ _ (by intro e; simp at e)]; exact World.cell?_setCell_same' _ _ _ (by rw [g0]; rfl))
          (by rw [hw9, World.cell?_setCell_other _ _ _ _ (by intro e; simp at e)]; exact World.cell?_setCell_same' _ _ _ (by rw [World.cell?_setCell_other _ _ _ _ (by intro e; simp at e), g1]; rfl))
          (by rw [hw9]; exact World.cell?_setCell_same' _ _ _ (by
            obtain ⟨v2, h2, _⟩ := (hla.but (Below.but (fun _ => False) hb) (fun k hk => hk.elim)).c2
            rw [World.cell?_setCell_other _ _ _ _ (by intro e; simp at e), World.cell?_setCell_other _ _ _ _ (by intro e; simp at e), h2]; rfl))
          (by rw [hw9, World.cell?_setCell_other _ _ _ _ (by intro e; simp at e), World.cell?_setCell_other _ _ _ _ (by intro e; simp at e), World.cell?_setCell_other _ _ _ _ (by intro e; simp at e)]; exact g3)
          (fun j => by rw [hw9, World.frozen?_setCell, World.frozen?_setCell, World.frozen?_setCell]; exact gz j)
        refine ⟨⟨o', h1, fun k hk => h3 k (Nat.lt_of_lt_of_le hk HB8.out.size)⟩, (But.of_below (X := MutB o) HB8.out).trans h2 (fun _ _ h => h)⟩)
      obtain ⟨v2, g2, _⟩ := (HQ0.out.1.but (Below.but (fun _ => False) (HBL.out wr HH.out.2)) (fun k hk => hk.elim)).c2
      clear HH gz g3
      go_wp2
      go_ret
      obtain ⟨h1, h2⟩ := HFIN.out _ rfl
      exact ⟨rfl, h1, h2, HG2.out⟩
end Go.Proofs.YtjmahmeionakaaaGreatDoor

/- The methods of an inventory that New did not return. -/
namespace Go.Proofs.YtjmahmeionakaaaGreatDoor
open Go.RowKit Go.Shelf Go.Maps Go.MapKept
set_option linter.unusedSimpArgs false
set_option linter.unusedVariables false

end Go.Proofs.YtjmahmeionakaaaGreatDoor

/- The law's examples: configurations, identifiers. -/
namespace Go.Proofs.YtjmahmeionakaaaGreatDoor
open Go.RowKit Go.Shelf Go.Maps Go.MapKept
set_option linter.unusedSimpArgs false
set_option linter.unusedVariables false

abbrev cbA (A : Option Addr) (c : Nat) : Cb := ⟨⟨#[89]⟩, 10, 1, A, c, [⟨⟨#[89]⟩, 3⟩, ⟨⟨#[77]⟩, 3⟩]⟩
abbrev cbB (A : Option Addr) (c : Nat) : Cb := ⟨⟨#[89]⟩, 6, 0, A, c, [⟨⟨#[89]⟩, 0⟩, ⟨⟨#[77]⟩, 0⟩]⟩
abbrev smpA (A B : Option Addr) (c d : Nat) : Cf := ⟨⟨#[51, 50, 48]⟩, A, c, [cbA B d]⟩
abbrev smpB (A B : Option Addr) (c d : Nat) : Cf := ⟨⟨#[51, 49, 57]⟩, A, c, [cbB B d]⟩
abbrev smpL (n : Nat) : List Cf := [smpA (some ⟨n + 1, 0, none⟩) (some ⟨n, 0, none⟩) 1 2, smpB (some ⟨n + 1 + 1 + 1, 0, none⟩) (some ⟨n + 1 + 1, 0, none⟩) 1 2]
set_option maxRecDepth 100000 in
set_option maxHeartbeats 4000000 in
theorem smp_any (w : World) : Calls Tryz.prog 40 #[] w fun e w' => e = .returned (.slice (some ⟨w.heap.size + 1 + 1 + 1 + 1, 0, none⟩) 2 2) ∧ CfL w' (.slice (some ⟨w.heap.size + 1 + 1 + 1 + 1, 0, none⟩) 2 2) (smpL w.heap.size) ∧ Below w.heap.size w w' := by
  have hb0 := bel_alloc w (.cells #[.string ⟨#[89]⟩, .int .i64 3, .string ⟨#[77]⟩, .int .i64 3] clT)
  have hb1 := bel_alloc (w.alloc (.cells #[.string ⟨#[89]⟩, .int .i64 3, .string ⟨#[77]⟩, .int .i64 3] clT)) (.cells #[.string ⟨#[89]⟩, .int .i64 10, .int .i64 1, .slice (some ⟨w.heap.size, 0, none⟩) 2 2] cbT)
  have hb2 := bel_alloc ((w.alloc (.cells #[.string ⟨#[89]⟩, .int .i64 3, .string ⟨#[77]⟩, .int .i64 3] clT)).alloc (.cells #[.string ⟨#[89]⟩, .int .i64 10, .int .i64 1, .slice (some ⟨w.heap.size, 0, none⟩) 2 2] cbT)) (.cells #[.string ⟨#[89]⟩, .int .i64 0, .string ⟨#[77]⟩, .int .i64 0] clT)
  have hb3 := bel_alloc (((w.alloc (.cells #[.string ⟨#[89]⟩, .int .i64 3, .string ⟨#[77]⟩, .int .i64 3] clT)).alloc (.cells #[.string ⟨#[89]⟩, .int .i64 10, .int .i64 1, .slice (some ⟨w.heap.size, 0, none⟩) 2 2] cbT)).alloc (.cells #[.string ⟨#[89]⟩, .int .i64 0, .string ⟨#[77]⟩, .int .i64 0] clT)) (.cells #[.string ⟨#[89]⟩, .int .i64 6, .int .i64 0, .slice (some ⟨(w.heap.size + 1 + 1), 0, none⟩) 2 2] cbT)
  have hb4 := bel_alloc ((((w.alloc (.cells #[.string ⟨#[89]⟩, .int .i64 3, .string ⟨#[77]⟩, .int .i64 3] clT)).alloc (.cells #[.string ⟨#[89]⟩, .int .i64 10, .int .i64 1, .slice (some ⟨w.heap.size, 0, none⟩) 2 2] cbT)).alloc (.cells #[.string ⟨#[89]⟩, .int .i64 0, .string ⟨#[77]⟩, .int .i64 0] clT)).alloc (.cells #[.string ⟨#[89]⟩, .int .i64 6, .int .i64 0, .slice (some ⟨(w.heap.size + 1 + 1), 0, none⟩) 2 2] cbT)) (.cells #[.string ⟨#[51, 50, 48]⟩, .slice (some ⟨(w.heap.size + 1), 0, none⟩) 1 1, .string ⟨#[51, 49, 57]⟩, .slice (some ⟨(w.heap.size + 1 + 1 + 1), 0, none⟩) 1 1] cfT)
  have s1 : (w.alloc (.cells #[.string ⟨#[89]⟩, .int .i64 3, .string ⟨#[77]⟩, .int .i64 3] clT)).heap.size = (w.heap.size + 1) := by simp only [World.size_alloc]
  have s2 : ((w.alloc (.cells #[.string ⟨#[89]⟩, .int .i64 3, .string ⟨#[77]⟩, .int .i64 3] clT)).alloc (.cells #[.string ⟨#[89]⟩, .int .i64 10, .int .i64 1, .slice (some ⟨w.heap.size, 0, none⟩) 2 2] cbT)).heap.size = (w.heap.size + 1 + 1) := by simp only [World.size_alloc]
  have s3 : (((w.alloc (.cells #[.string ⟨#[89]⟩, .int .i64 3, .string ⟨#[77]⟩, .int .i64 3] clT)).alloc (.cells #[.string ⟨#[89]⟩, .int .i64 10, .int .i64 1, .slice (some ⟨w.heap.size, 0, none⟩) 2 2] cbT)).alloc (.cells #[.string ⟨#[89]⟩, .int .i64 0, .string ⟨#[77]⟩, .int .i64 0] clT)).heap.size = (w.heap.size + 1 + 1 + 1) := by simp only [World.size_alloc]
  have s4 : ((((w.alloc (.cells #[.string ⟨#[89]⟩, .int .i64 3, .string ⟨#[77]⟩, .int .i64 3] clT)).alloc (.cells #[.string ⟨#[89]⟩, .int .i64 10, .int .i64 1, .slice (some ⟨w.heap.size, 0, none⟩) 2 2] cbT)).alloc (.cells #[.string ⟨#[89]⟩, .int .i64 0, .string ⟨#[77]⟩, .int .i64 0] clT)).alloc (.cells #[.string ⟨#[89]⟩, .int .i64 6, .int .i64 0, .slice (some ⟨(w.heap.size + 1 + 1), 0, none⟩) 2 2] cbT)).heap.size = (w.heap.size + 1 + 1 + 1 + 1) := by simp only [World.size_alloc]
  have s5 : (((((w.alloc (.cells #[.string ⟨#[89]⟩, .int .i64 3, .string ⟨#[77]⟩, .int .i64 3] clT)).alloc (.cells #[.string ⟨#[89]⟩, .int .i64 10, .int .i64 1, .slice (some ⟨w.heap.size, 0, none⟩) 2 2] cbT)).alloc (.cells #[.string ⟨#[89]⟩, .int .i64 0, .string ⟨#[77]⟩, .int .i64 0] clT)).alloc (.cells #[.string ⟨#[89]⟩, .int .i64 6, .int .i64 0, .slice (some ⟨(w.heap.size + 1 + 1), 0, none⟩) 2 2] cbT)).alloc (.cells #[.string ⟨#[51, 50, 48]⟩, .slice (some ⟨(w.heap.size + 1), 0, none⟩) 1 1, .string ⟨#[51, 49, 57]⟩, .slice (some ⟨(w.heap.size + 1 + 1 + 1), 0, none⟩) 1 1] cfT)).heap.size = (w.heap.size + 1 + 1 + 1 + 1 + 1) := by simp only [World.size_alloc]
  have r0 : RowL 2 encCl (w.alloc (.cells #[.string ⟨#[89]⟩, .int .i64 3, .string ⟨#[77]⟩, .int .i64 3] clT)) (.slice (some ⟨w.heap.size, 0, none⟩) 2 2) [⟨⟨#[89]⟩, 3⟩, ⟨⟨#[77]⟩, 3⟩] := by
    have h := RowL.new (enc := encCl) (sz := 2) w [⟨⟨#[89]⟩, 3⟩, ⟨⟨#[77]⟩, 3⟩] clT (fun _ => rfl) (cs := #[.string ⟨#[89]⟩, .int .i64 3, .string ⟨#[77]⟩, .int .i64 3]) rfl 2
    skip
    exact h
  have r1 : RowL 4 encCb ((w.alloc (.cells #[.string ⟨#[89]⟩, .int .i64 3, .string ⟨#[77]⟩, .int .i64 3] clT)).alloc (.cells #[.string ⟨#[89]⟩, .int .i64 10, .int .i64 1, .slice (some ⟨w.heap.size, 0, none⟩) 2 2] cbT)) (.slice (some ⟨(w.heap.size + 1), 0, none⟩) 1 1) [cbA (some ⟨w.heap.size, 0, none⟩) 2] := by
    have h := RowL.new (enc := encCb) (sz := 4) (w.alloc (.cells #[.string ⟨#[89]⟩, .int .i64 3, .string ⟨#[77]⟩, .int .i64 3] clT)) [cbA (some ⟨w.heap.size, 0, none⟩) 2] cbT (fun _ => rfl) (cs := #[.string ⟨#[89]⟩, .int .i64 10, .int .i64 1, .slice (some ⟨w.heap.size, 0, none⟩) 2 2]) rfl 1
    rw [s1] at h
    exact h
  have r2 : RowL 2 encCl (((w.alloc (.cells #[.string ⟨#[89]⟩, .int .i64 3, .string ⟨#[77]⟩, .int .i64 3] clT)).alloc (.cells #[.string ⟨#[89]⟩, .int .i64 10, .int .i64 1, .slice (some ⟨w.heap.size, 0, none⟩) 2 2] cbT)).alloc (.cells #[.string ⟨#[89]⟩, .int .i64 0, .string ⟨#[77]⟩, .int .i64 0] clT)) (.slice (some ⟨(w.heap.size + 1 + 1), 0, none⟩) 2 2) [⟨⟨#[89]⟩, 0⟩, ⟨⟨#[77]⟩, 0⟩] := by
    have h := RowL.new (enc := encCl) (sz := 2) ((w.alloc (.cells #[.string ⟨#[89]⟩, .int .i64 3, .string ⟨#[77]⟩, .int .i64 3] clT)).alloc (.cells #[.string ⟨#[89]⟩, .int .i64 10, .int .i64 1, .slice (some ⟨w.heap.size, 0, none⟩) 2 2] cbT)) [⟨⟨#[89]⟩, 0⟩, ⟨⟨#[77]⟩, 0⟩] clT (fun _ => rfl) (cs := #[.string ⟨#[89]⟩, .int .i64 0, .string ⟨#[77]⟩, .int .i64 0]) rfl 2
    rw [s2] at h
    exact h
  have r3 : RowL 4 encCb ((((w.alloc (.cells #[.string ⟨#[89]⟩, .int .i64 3, .string ⟨#[77]⟩, .int .i64 3] clT)).alloc (.cells #[.string ⟨#[89]⟩, .int .i64 10, .int .i64 1, .slice (some ⟨w.heap.size, 0, none⟩) 2 2] cbT)).alloc (.cells #[.string ⟨#[89]⟩, .int .i64 0, .string ⟨#[77]⟩, .int .i64 0] clT)).alloc (.cells #[.string ⟨#[89]⟩, .int .i64 6, .int .i64 0, .slice (some ⟨(w.heap.size + 1 + 1), 0, none⟩) 2 2] cbT)) (.slice (some ⟨(w.heap.size + 1 + 1 + 1), 0, none⟩) 1 1) [cbB (some ⟨(w.heap.size + 1 + 1), 0, none⟩) 2] := by
    have h := RowL.new (enc := encCb) (sz := 4) (((w.alloc (.cells #[.string ⟨#[89]⟩, .int .i64 3, .string ⟨#[77]⟩, .int .i64 3] clT)).alloc (.cells #[.string ⟨#[89]⟩, .int .i64 10, .int .i64 1, .slice (some ⟨w.heap.size, 0, none⟩) 2 2] cbT)).alloc (.cells #[.string ⟨#[89]⟩, .int .i64 0, .string ⟨#[77]⟩, .int .i64 0] clT)) [cbB (some ⟨(w.heap.size + 1 + 1), 0, none⟩) 2] cbT (fun _ => rfl) (cs := #[.string ⟨#[89]⟩, .int .i64 6, .int .i64 0, .slice (some ⟨(w.heap.size + 1 + 1), 0, none⟩) 2 2]) rfl 1
    rw [s3] at h
    exact h
  have r4 : RowL 2 encCf (((((w.alloc (.cells #[.string ⟨#[89]⟩, .int .i64 3, .string ⟨#[77]⟩, .int .i64 3] clT)).alloc (.cells #[.string ⟨#[89]⟩, .int .i64 10, .int .i64 1, .slice (some ⟨w.heap.size, 0, none⟩) 2 2] cbT)).alloc (.cells #[.string ⟨#[89]⟩, .int .i64 0, .string ⟨#[77]⟩, .int .i64 0] clT)).alloc (.cells #[.string ⟨#[89]⟩, .int .i64 6, .int .i64 0, .slice (some ⟨(w.heap.size + 1 + 1), 0, none⟩) 2 2] cbT)).alloc (.cells #[.string ⟨#[51, 50, 48]⟩, .slice (some ⟨(w.heap.size + 1), 0, none⟩) 1 1, .string ⟨#[51, 49, 57]⟩, .slice (some ⟨(w.heap.size + 1 + 1 + 1), 0, none⟩) 1 1] cfT)) (.slice (some ⟨(w.heap.size + 1 + 1 + 1 + 1), 0, none⟩) 2 2) (smpL w.heap.size) := by
    have h := RowL.new (enc := encCf) (sz := 2) ((((w.alloc (.cells #[.string ⟨#[89]⟩, .int .i64 3, .string ⟨#[77]⟩, .int .i64 3] clT)).alloc (.cells #[.string ⟨#[89]⟩, .int .i64 10, .int .i64 1, .slice (some ⟨w.heap.size, 0, none⟩) 2 2] cbT)).alloc (.cells #[.string ⟨#[89]⟩, .int .i64 0, .string ⟨#[77]⟩, .int .i64 0] clT)).alloc (.cells #[.string ⟨#[89]⟩, .int .i64 6, .int .i64 0, .slice (some ⟨(w.heap.size + 1 + 1), 0, none⟩) 2 2] cbT)) (smpL w.heap.size) cfT (fun _ => rfl) (cs := #[.string ⟨#[51, 50, 48]⟩, .slice (some ⟨(w.heap.size + 1), 0, none⟩) 1 1, .string ⟨#[51, 49, 57]⟩, .slice (some ⟨(w.heap.size + 1 + 1 + 1), 0, none⟩) 1 1]) rfl 2
    rw [s4] at h
    exact h
  have t0 := (RowL.more (RowL.more (RowL.more (RowL.more r0 hb1) hb2) hb3) hb4)
  have t1 := (RowL.more (RowL.more (RowL.more r1 hb2) hb3) hb4)
  have t2 := (RowL.more (RowL.more r2 hb3) hb4)
  have t3 := (RowL.more r3 hb4)
  have HB : Hid (Below w.heap.size w (((((w.alloc (.cells #[.string ⟨#[89]⟩, .int .i64 3, .string ⟨#[77]⟩, .int .i64 3] clT)).alloc (.cells #[.string ⟨#[89]⟩, .int .i64 10, .int .i64 1, .slice (some ⟨w.heap.size, 0, none⟩) 2 2] cbT)).alloc (.cells #[.string ⟨#[89]⟩, .int .i64 0, .string ⟨#[77]⟩, .int .i64 0] clT)).alloc (.cells #[.string ⟨#[89]⟩, .int .i64 6, .int .i64 0, .slice (some ⟨(w.heap.size + 1 + 1), 0, none⟩) 2 2] cbT)).alloc (.cells #[.string ⟨#[51, 50, 48]⟩, .slice (some ⟨(w.heap.size + 1), 0, none⟩) 1 1, .string ⟨#[51, 49, 57]⟩, .slice (some ⟨(w.heap.size + 1 + 1 + 1), 0, none⟩) 1 1] cfT))) := Lib.hid ((((hb0.trans (hb1.mono hb0.size)).trans (hb2.mono (by rw [s2]; omega))).trans (hb3.mono (by rw [s3]; omega))).trans (hb4.mono (by rw [s4]; omega)))
  have HX : Hid (CfL (((((w.alloc (.cells #[.string ⟨#[89]⟩, .int .i64 3, .string ⟨#[77]⟩, .int .i64 3] clT)).alloc (.cells #[.string ⟨#[89]⟩, .int .i64 10, .int .i64 1, .slice (some ⟨w.heap.size, 0, none⟩) 2 2] cbT)).alloc (.cells #[.string ⟨#[89]⟩, .int .i64 0, .string ⟨#[77]⟩, .int .i64 0] clT)).alloc (.cells #[.string ⟨#[89]⟩, .int .i64 6, .int .i64 0, .slice (some ⟨(w.heap.size + 1 + 1), 0, none⟩) 2 2] cbT)).alloc (.cells #[.string ⟨#[51, 50, 48]⟩, .slice (some ⟨(w.heap.size + 1), 0, none⟩) 1 1, .string ⟨#[51, 49, 57]⟩, .slice (some ⟨(w.heap.size + 1 + 1 + 1), 0, none⟩) 1 1] cfT)) (.slice (some ⟨(w.heap.size + 1 + 1 + 1 + 1), 0, none⟩) 2 2) (smpL w.heap.size)) := Lib.hid ⟨r4, fun f hf => by
    simp only [smpL, List.mem_cons, List.not_mem_nil, or_false] at hf
    rcases hf with rfl | rfl
    · exact ⟨t1, fun b hb => by simp only [List.mem_cons, List.not_mem_nil, or_false] at hb; subst hb; exact t0⟩
    · exact ⟨t3, fun b hb => by simp only [List.mem_cons, List.not_mem_nil, or_false] at hb; subst hb; exact t2⟩⟩
  clear hb0 hb1 hb2 hb3 hb4 s1 s2 s3 s4 s5 r0 r1 r2 r3 r4 t0 t1 t2 t3
  go_enter Tryz.func40, Tryz.ntmps40
  go_wp2
  go_ret
  exact ⟨rfl, HX.out, HB.out⟩
def idL : List Lid := [⟨⟨#[66, 65]⟩, 2, 9, ⟨#[76, 72, 82]⟩⟩, ⟨⟨#[66, 65]⟩, 2, 9, ⟨#[67, 68, 71]⟩⟩, ⟨⟨#[65, 70]⟩, 7, 9, ⟨#[67, 68, 71]⟩⟩, ⟨⟨#[66, 65]⟩, 2, 8, ⟨#[76, 72, 82]⟩⟩, ⟨⟨#[66, 65]⟩, 11, 8, ⟨#[76, 72, 82]⟩⟩, ⟨⟨#[66, 65]⟩, 1, 9, ⟨#[74, 70, 75]⟩⟩]
abbrev id0 : Lid := ⟨⟨#[66, 65]⟩, 2, 9, ⟨#[76, 72, 82]⟩⟩
abbrev id1 : Lid := ⟨⟨#[66, 65]⟩, 2, 9, ⟨#[67, 68, 71]⟩⟩
set_option maxRecDepth 100000 in
set_option maxHeartbeats 4000000 in
theorem id0_any (w : World) : Calls Tryz.prog 18 #[.int .u8 0] w fun e w' => e = .returned (aggD id0) ∧ Below w.heap.size w w' := by
  have hb0 := bel_alloc w (.cells #[.string noB, .int .i64 0, .int .i64 0, .string noB] lidT)
  have hb1 := bel_alloc (w.alloc (.cells #[.string noB, .int .i64 0, .int .i64 0, .string noB] lidT)) (.cells #[.string ⟨#[66, 65]⟩, .int .i64 2, .int .i64 9, .string ⟨#[76, 72, 82]⟩, .string ⟨#[66, 65]⟩, .int .i64 2, .int .i64 9, .string ⟨#[67, 68, 71]⟩, .string ⟨#[65, 70]⟩, .int .i64 7, .int .i64 9, .string ⟨#[67, 68, 71]⟩, .string ⟨#[66, 65]⟩, .int .i64 2, .int .i64 8, .string ⟨#[76, 72, 82]⟩, .string ⟨#[66, 65]⟩, .int .i64 11, .int .i64 8, .string ⟨#[76, 72, 82]⟩, .string ⟨#[66, 65]⟩, .int .i64 1, .int .i64 9, .string ⟨#[74, 70, 75]⟩] lidT)
  have c0 := (cells_new (w.alloc (.cells #[.string noB, .int .i64 0, .int .i64 0, .string noB] lidT)) #[.string ⟨#[66, 65]⟩, .int .i64 2, .int .i64 9, .string ⟨#[76, 72, 82]⟩, .string ⟨#[66, 65]⟩, .int .i64 2, .int .i64 9, .string ⟨#[67, 68, 71]⟩, .string ⟨#[65, 70]⟩, .int .i64 7, .int .i64 9, .string ⟨#[67, 68, 71]⟩, .string ⟨#[66, 65]⟩, .int .i64 2, .int .i64 8, .string ⟨#[76, 72, 82]⟩, .string ⟨#[66, 65]⟩, .int .i64 11, .int .i64 8, .string ⟨#[76, 72, 82]⟩, .string ⟨#[66, 65]⟩, .int .i64 1, .int .i64 9, .string ⟨#[74, 70, 75]⟩] lidT 0).trans (show _ = some (Value.string ⟨#[66, 65]⟩) from rfl)
  have c1 := (cells_new (w.alloc (.cells #[.string noB, .int .i64 0, .int .i64 0, .string noB] lidT)) #[.string ⟨#[66, 65]⟩, .int .i64 2, .int .i64 9, .string ⟨#[76, 72, 82]⟩, .string ⟨#[66, 65]⟩, .int .i64 2, .int .i64 9, .string ⟨#[67, 68, 71]⟩, .string ⟨#[65, 70]⟩, .int .i64 7, .int .i64 9, .string ⟨#[67, 68, 71]⟩, .string ⟨#[66, 65]⟩, .int .i64 2, .int .i64 8, .string ⟨#[76, 72, 82]⟩, .string ⟨#[66, 65]⟩, .int .i64 11, .int .i64 8, .string ⟨#[76, 72, 82]⟩, .string ⟨#[66, 65]⟩, .int .i64 1, .int .i64 9, .string ⟨#[74, 70, 75]⟩] lidT 1).trans (show _ = some (Value.int .i64 2) from rfl)
  have c2 := (cells_new (w.alloc (.cells #[.string noB, .int .i64 0, .int .i64 0, .string noB] lidT)) #[.string ⟨#[66, 65]⟩, .int .i64 2, .int .i64 9, .string ⟨#[76, 72, 82]⟩, .string ⟨#[66, 65]⟩, .int .i64 2, .int .i64 9, .string ⟨#[67, 68, 71]⟩, .string ⟨#[65, 70]⟩, .int .i64 7, .int .i64 9, .string ⟨#[67, 68, 71]⟩, .string ⟨#[66, 65]⟩, .int .i64 2, .int .i64 8, .string ⟨#[76, 72, 82]⟩, .string ⟨#[66, 65]⟩, .int .i64 11, .int .i64 8, .string ⟨#[76, 72, 82]⟩, .string ⟨#[66, 65]⟩, .int .i64 1, .int .i64 9, .string ⟨#[74, 70, 75]⟩] lidT 2).trans (show _ = some (Value.int .i64 9) from rfl)
  have c3 := (cells_new (w.alloc (.cells #[.string noB, .int .i64 0, .int .i64 0, .string noB] lidT)) #[.string ⟨#[66, 65]⟩, .int .i64 2, .int .i64 9, .string ⟨#[76, 72, 82]⟩, .string ⟨#[66, 65]⟩, .int .i64 2, .int .i64 9, .string ⟨#[67, 68, 71]⟩, .string ⟨#[65, 70]⟩, .int .i64 7, .int .i64 9, .string ⟨#[67, 68, 71]⟩, .string ⟨#[66, 65]⟩, .int .i64 2, .int .i64 8, .string ⟨#[76, 72, 82]⟩, .string ⟨#[66, 65]⟩, .int .i64 11, .int .i64 8, .string ⟨#[76, 72, 82]⟩, .string ⟨#[66, 65]⟩, .int .i64 1, .int .i64 9, .string ⟨#[74, 70, 75]⟩] lidT 3).trans (show _ = some (Value.string ⟨#[76, 72, 82]⟩) from rfl)
  rw [World.size_alloc] at c0 c1 c2 c3
  have hz := heap_alloc_new w (.cells #[.string noB, .int .i64 0, .int .i64 0, .string noB] lidT)
  have hz1 := (hb1.block _ (lt_of_cell2 hz)).trans hz
  have HB := Lib.hid (hb0.trans (hb1.mono hb0.size))
  have HZ := Lib.hid hz1
  have y0 := cell_of_row _ _ 0 _ _ (0, 0) hz1
  have y1 := cell_of_row _ _ 1 _ _ (0, 0) hz1
  have y2 := cell_of_row _ _ 2 _ _ (0, 0) hz1
  have y3 := cell_of_row _ _ 3 _ _ (0, 0) hz1
  have f0 := frozen_of_row _ _ 0 _ _ hz1
  have f1 := frozen_of_row _ _ 1 _ _ hz1
  have f2 := frozen_of_row _ _ 2 _ _ hz1
  have f3 := frozen_of_row _ _ 3 _ _ hz1
  clear hb0 hb1 hz hz1
  go_enter Tryz.func18, Tryz.ntmps18
  go_upto_region 2 with fail
  generalize (w.alloc (.cells #[.string noB, .int .i64 0, .int .i64 0, .string noB] lidT)).alloc (.cells #[.string ⟨#[66, 65]⟩, .int .i64 2, .int .i64 9, .string ⟨#[76, 72, 82]⟩, .string ⟨#[66, 65]⟩, .int .i64 2, .int .i64 9, .string ⟨#[67, 68, 71]⟩, .string ⟨#[65, 70]⟩, .int .i64 7, .int .i64 9, .string ⟨#[67, 68, 71]⟩, .string ⟨#[66, 65]⟩, .int .i64 2, .int .i64 8, .string ⟨#[76, 72, 82]⟩, .string ⟨#[66, 65]⟩, .int .i64 11, .int .i64 8, .string ⟨#[76, 72, 82]⟩, .string ⟨#[66, 65]⟩, .int .i64 1, .int .i64 9, .string ⟨#[74, 70, 75]⟩] lidT) = w5 at *
  go_wp2
  have hh := S4.heap HZ.out (.string ⟨#[66, 65]⟩) (.int .i64 2) (.int .i64 9) (.string ⟨#[76, 72, 82]⟩)
  have hbut := S4.but w5 w.heap.size (.string ⟨#[66, 65]⟩) (.int .i64 2) (.int .i64 9) (.string ⟨#[76, 72, 82]⟩)
  generalize (((w5.setCell ⟨w.heap.size, 0, none⟩ (.string ⟨#[66, 65]⟩)).setCell ⟨w.heap.size, 1, none⟩ (.int .i64 2)).setCell ⟨w.heap.size, 2, none⟩ (.int .i64 9)).setCell ⟨w.heap.size, 3, none⟩ (.string ⟨#[76, 72, 82]⟩) = w6 at *
  have d0 := cell_of_row _ _ 0 _ _ (0, 0) hh
  have d1 := cell_of_row _ _ 1 _ _ (0, 0) hh
  have d2 := cell_of_row _ _ 2 _ _ (0, 0) hh
  have d3 := cell_of_row _ _ 3 _ _ (0, 0) hh
  refine bodyPost_ret (v := aggD id0) ?_ rfl ⟨rfl, HB.out.trans (hbut.below HB.out.size (fun k hk e => by omega))⟩
  simp [results, Tryz.results18, go_sem, d0, d1, d2, d3]
set_option maxRecDepth 100000 in
set_option maxHeartbeats 4000000 in
theorem id1_any (w : World) : Calls Tryz.prog 18 #[.int .u8 1] w fun e w' => e = .returned (aggD id1) ∧ Below w.heap.size w w' := by
  have hb0 := bel_alloc w (.cells #[.string noB, .int .i64 0, .int .i64 0, .string noB] lidT)
  have hb1 := bel_alloc (w.alloc (.cells #[.string noB, .int .i64 0, .int .i64 0, .string noB] lidT)) (.cells #[.string ⟨#[66, 65]⟩, .int .i64 2, .int .i64 9, .string ⟨#[76, 72, 82]⟩, .string ⟨#[66, 65]⟩, .int .i64 2, .int .i64 9, .string ⟨#[67, 68, 71]⟩, .string ⟨#[65, 70]⟩, .int .i64 7, .int .i64 9, .string ⟨#[67, 68, 71]⟩, .string ⟨#[66, 65]⟩, .int .i64 2, .int .i64 8, .string ⟨#[76, 72, 82]⟩, .string ⟨#[66, 65]⟩, .int .i64 11, .int .i64 8, .string ⟨#[76, 72, 82]⟩, .string ⟨#[66, 65]⟩, .int .i64 1, .int .i64 9, .string ⟨#[74, 70, 75]⟩] lidT)
  have c0 := (cells_new (w.alloc (.cells #[.string noB, .int .i64 0, .int .i64 0, .string noB] lidT)) #[.string ⟨#[66, 65]⟩, .int .i64 2, .int .i64 9, .string ⟨#[76, 72, 82]⟩, .string ⟨#[66, 65]⟩, .int .i64 2, .int .i64 9, .string ⟨#[67, 68, 71]⟩, .string ⟨#[65, 70]⟩, .int .i64 7, .int .i64 9, .string ⟨#[67, 68, 71]⟩, .string ⟨#[66, 65]⟩, .int .i64 2, .int .i64 8, .string ⟨#[76, 72, 82]⟩, .string ⟨#[66, 65]⟩, .int .i64 11, .int .i64 8, .string ⟨#[76, 72, 82]⟩, .string ⟨#[66, 65]⟩, .int .i64 1, .int .i64 9, .string ⟨#[74, 70, 75]⟩] lidT 4).trans (show _ = some (Value.string ⟨#[66, 65]⟩) from rfl)
  have c1 := (cells_new (w.alloc (.cells #[.string noB, .int .i64 0, .int .i64 0, .string noB] lidT)) #[.string ⟨#[66, 65]⟩, .int .i64 2, .int .i64 9, .string ⟨#[76, 72, 82]⟩, .string ⟨#[66, 65]⟩, .int .i64 2, .int .i64 9, .string ⟨#[67, 68, 71]⟩, .string ⟨#[65, 70]⟩, .int .i64 7, .int .i64 9, .string ⟨#[67, 68, 71]⟩, .string ⟨#[66, 65]⟩, .int .i64 2, .int .i64 8, .string ⟨#[76, 72, 82]⟩, .string ⟨#[66, 65]⟩, .int .i64 11, .int .i64 8, .string ⟨#[76, 72, 82]⟩, .string ⟨#[66, 65]⟩, .int .i64 1, .int .i64 9, .string ⟨#[74, 70, 75]⟩] lidT 5).trans (show _ = some (Value.int .i64 2) from rfl)
  have c2 := (cells_new (w.alloc (.cells #[.string noB, .int .i64 0, .int .i64 0, .string noB] lidT)) #[.string ⟨#[66, 65]⟩, .int .i64 2, .int .i64 9, .string ⟨#[76, 72, 82]⟩, .string ⟨#[66, 65]⟩, .int .i64 2, .int .i64 9, .string ⟨#[67, 68, 71]⟩, .string ⟨#[65, 70]⟩, .int .i64 7, .int .i64 9, .string ⟨#[67, 68, 71]⟩, .string ⟨#[66, 65]⟩, .int .i64 2, .int .i64 8, .string ⟨#[76, 72, 82]⟩, .string ⟨#[66, 65]⟩, .int .i64 11, .int .i64 8, .string ⟨#[76, 72, 82]⟩, .string ⟨#[66, 65]⟩, .int .i64 1, .int .i64 9, .string ⟨#[74, 70, 75]⟩] lidT 6).trans (show _ = some (Value.int .i64 9) from rfl)
  have c3 := (cells_new (w.alloc (.cells #[.string noB, .int .i64 0, .int .i64 0, .string noB] lidT)) #[.string ⟨#[66, 65]⟩, .int .i64 2, .int .i64 9, .string ⟨#[76, 72, 82]⟩, .string ⟨#[66, 65]⟩, .int .i64 2, .int .i64 9, .string ⟨#[67, 68, 71]⟩, .string ⟨#[65, 70]⟩, .int .i64 7, .int .i64 9, .string ⟨#[67, 68, 71]⟩, .string ⟨#[66, 65]⟩, .int .i64 2, .int .i64 8, .string ⟨#[76, 72, 82]⟩, .string ⟨#[66, 65]⟩, .int .i64 11, .int .i64 8, .string ⟨#[76, 72, 82]⟩, .string ⟨#[66, 65]⟩, .int .i64 1, .int .i64 9, .string ⟨#[74, 70, 75]⟩] lidT 7).trans (show _ = some (Value.string ⟨#[67, 68, 71]⟩) from rfl)
  rw [World.size_alloc] at c0 c1 c2 c3
  have hz := heap_alloc_new w (.cells #[.string noB, .int .i64 0, .int .i64 0, .string noB] lidT)
  have hz1 := (hb1.block _ (lt_of_cell2 hz)).trans hz
  have HB := Lib.hid (hb0.trans (hb1.mono hb0.size))
  have HZ := Lib.hid hz1
  have y0 := cell_of_row _ _ 0 _ _ (0, 0) hz1
  have y1 := cell_of_row _ _ 1 _ _ (0, 0) hz1
  have y2 := cell_of_row _ _ 2 _ _ (0, 0) hz1
  have y3 := cell_of_row _ _ 3 _ _ (0, 0) hz1
  have f0 := frozen_of_row _ _ 0 _ _ hz1
  have f1 := frozen_of_row _ _ 1 _ _ hz1
  have f2 := frozen_of_row _ _ 2 _ _ hz1
  have f3 := frozen_of_row _ _ 3 _ _ hz1
  clear hb0 hb1 hz hz1
  go_enter Tryz.func18, Tryz.ntmps18
  go_upto_region 2 with fail
  generalize (w.alloc (.cells #[.string noB, .int .i64 0, .int .i64 0, .string noB] lidT)).alloc (.cells #[.string ⟨#[66, 65]⟩, .int .i64 2, .int .i64 9, .string ⟨#[76, 72, 82]⟩, .string ⟨#[66, 65]⟩, .int .i64 2, .int .i64 9, .string ⟨#[67, 68, 71]⟩, .string ⟨#[65, 70]⟩, .int .i64 7, .int .i64 9, .string ⟨#[67, 68, 71]⟩, .string ⟨#[66, 65]⟩, .int .i64 2, .int .i64 8, .string ⟨#[76, 72, 82]⟩, .string ⟨#[66, 65]⟩, .int .i64 11, .int .i64 8, .string ⟨#[76, 72, 82]⟩, .string ⟨#[66, 65]⟩, .int .i64 1, .int .i64 9, .string ⟨#[74, 70, 75]⟩] lidT) = w5 at *
  go_wp2
  have hh := S4.heap HZ.out (.string ⟨#[66, 65]⟩) (.int .i64 2) (.int .i64 9) (.string ⟨#[67, 68, 71]⟩)
  have hbut := S4.but w5 w.heap.size (.string ⟨#[66, 65]⟩) (.int .i64 2) (.int .i64 9) (.string ⟨#[67, 68, 71]⟩)
  generalize (((w5.setCell ⟨w.heap.size, 0, none⟩ (.string ⟨#[66, 65]⟩)).setCell ⟨w.heap.size, 1, none⟩ (.int .i64 2)).setCell ⟨w.heap.size, 2, none⟩ (.int .i64 9)).setCell ⟨w.heap.size, 3, none⟩ (.string ⟨#[67, 68, 71]⟩) = w6 at *
  have d0 := cell_of_row _ _ 0 _ _ (0, 0) hh
  have d1 := cell_of_row _ _ 1 _ _ (0, 0) hh
  have d2 := cell_of_row _ _ 2 _ _ (0, 0) hh
  have d3 := cell_of_row _ _ 3 _ _ (0, 0) hh
  refine bodyPost_ret (v := aggD id1) ?_ rfl ⟨rfl, HB.out.trans (hbut.below HB.out.size (fun k hk e => by omega))⟩
  simp [results, Tryz.results18, go_sem, d0, d1, d2, d3]
end Go.Proofs.YtjmahmeionakaaaGreatDoor
