/- add: seats that are sold or given back, in memory. -/
import Derived.Test.YtkghpapbifijcaaGreatDoorStkL
namespace Go.Proofs.YtkghpapbifijcaaGreatDoor
open Go.RowKit Go.Shelf Go.Maps Go.MapKept
set_option linter.unusedSimpArgs false
set_option linter.unusedVariables false

theorem addS_at {so : List (List Int)} {i : Nat} {s : List Int} (k : Nat) (n : Int) (h : so[i]? = some s) : addS so i k n = so.set i (wiL s k n) := by unfold addS; rw [h]
theorem wiL_get {s : List Int} {k : Nat} {x : Int} (n : Int) (h : s[k]? = some x) : wiL s k n = s.set k (x + n) := by unfold wiL; rw [h]; rfl
theorem totP_set {so : List (List Int)} {i : Nat} {s t : List Int} (h : so[i]? = some s) : totP (so.set i t) = totP so + (sumI t - sumI s) := by
  unfold totP
  rw [List.map_set]
  exact sumI_set (so.map sumI) i (sumI t) (sumI s) (by rw [List.getElem?_map, h]; rfl)
theorem OkL.mono {K K' : Int} {q : Lg} (h : OkL K q) (hk : K ≤ K') : OkL K' q := { h with tot := Int.le_trans h.tot hk }
theorem OkG.mono {K K' : Int} {cs : List Cf} {g : Stk} (h : OkG K cs g) (hk : K ≤ K') : OkG K' cs g := ⟨fun i q hq => ⟨(h.leg i q hq).1.mono hk, (h.leg i q hq).2⟩⟩
theorem OkL.add {K : Int} {q : Lg} (h : OkL K q) {c : ByteArray} (hc : q.has c = true) {m : Int} (hm : 0 ≤ q.sold c + m) : OkL (K + max m 0) (q.add c m) := by
  obtain ⟨b, s, x, hP⟩ := h.plc hc
  rw [hP.sold] at hm
  have e1 : (q.add c m).so = q.so.set (q.ci c) (s.set (q.ck c) (x + m)) := by
    show addS q.so (q.ci c) (q.ck c) m = _
    rw [addS_at _ _ hP.hs, wiL_get m hP.hx]
  have hsum := sumI_set s (q.ck c) (x + m) x hP.hx
  refine { right := h.right, small := h.small, ok := h.ok, pos := h.pos, cls := h.cls, len := ?_, each := fun i b' s' hb hs => ?_, low := fun s' hs y hy => ?_, tot := ?_ }
  · rw [e1, List.length_set]; exact h.len
  · rw [e1, List.getElem?_set] at hs
    split at hs
    · rename_i e
      subst e
      split at hs
      · cases hs
        have := h.each _ b' s hb hP.hs
        rw [List.length_set]; exact this
      · cases hs
    · exact h.each i b' s' hb hs
  · rw [e1] at hs
    rcases List.mem_or_eq_of_mem_set hs with h1 | rfl
    · exact h.low s' h1 y hy
    · rcases List.mem_or_eq_of_mem_set hy with h2 | rfl
      · exact h.low s (List.mem_of_getElem? hP.hs) y h2
      · exact hm
  · rw [e1, totP_set hP.hs, hsum]
    have := h.tot
    have := Int.le_max_left m 0
    omega
theorem addG_no (g : Stk) (c : ByteArray) (m : Int) (i : Lid) : ∀ l : List Lid, i ∉ l → addG g l c m i = g i := by
  intro l
  induction l generalizing g with
  | nil => intro _; rfl
  | cons j r ih =>
    intro h
    show addG (addG1 g c m j) r c m i = g i
    rw [ih _ (fun hr => h (by simp [hr]))]
    unfold addG1
    cases g j with
    | some q => show updS g j (q.add c m) i = g i; unfold updS; rw [if_neg (fun e => h (by simp [e]))]
    | none => rfl
theorem addG_snoc (g : Stk) (c : ByteArray) (m : Int) (l : List Lid) (i : Lid) : addG g (l ++ [i]) c m = addG1 (addG g l c m) c m i := by
  unfold addG
  rw [List.foldl_append]
  rfl
theorem OkG.upd {K : Int} {cs : List Cf} {g : Stk} (h : OkG K cs g) {i : Lid} {q : Lg} (hq : OkL K q) (hf : q.f ∈ cs) : OkG K cs (updS g i q) := ⟨fun j q' hj => by
  unfold updS at hj
  split at hj
  · cases hj; exact ⟨hq, hf⟩
  · exact h.leg j q' hj⟩

/-! ### a store into a leg's row -/
theorem SoldAt.store {w : World} {o : Own'} {i : Lid} {v : Value} {so : List (List Int)} (h : SoldAt w o i v so) {ci ck r : Nat} {s : List Int} {x : Int} (hs : so[ci]? = some s) (hck : ck < s.length) (hr : o r = .row i ci) (hrow : Row w r s)
    (hcell : ∃ b c rc, v = .slice (some ⟨b, 0, none⟩) so.length c ∧ w.cell? ⟨b, ci, none⟩ = some (.slice (some ⟨r, 0, none⟩) s.length rc)) : SoldAt (w.setCell ⟨r, ck, none⟩ (.int .i64 x)) o i v (so.set ci (s.set ck x)) := by
  obtain ⟨b, c, e, h1, h2, h3⟩ := h
  obtain ⟨b', c', rc', e', hc⟩ := hcell
  rw [e] at e'
  simp only [Value.slice.injEq, Option.some.injEq, Addr.mk.injEq, and_true, true_and] at e'
  obtain ⟨rfl, rfl⟩ := e'
  have hbut := But.setCell w r ck (.int .i64 x)
  have hbr : b ≠ r := fun e => by rw [e, hr] at h1; cases h1
  refine ⟨b, c, by rw [List.length_set]; exact e, h1, Nat.lt_of_lt_of_le h2 hbut.size, fun k t hk => ?_⟩
  rw [List.getElem?_set] at hk
  by_cases ek : ci = k
  · subst ek
    rw [if_pos rfl] at hk
    split at hk
    · cases hk
      exact ⟨r, rc', by rw [List.length_set]; exact but_cell hbut hc hbr, hr, hrow.set ck hck x⟩
    · cases hk
  · rw [if_neg ek] at hk
    obtain ⟨r', c', g1, g2, g3⟩ := h3 k t hk
    have hrr : r' ≠ r := fun e => by rw [e, hr] at g2; exact ek (by injection g2)
    exact ⟨r', c', but_cell hbut g1 hbr, g2, g3.but hbut hrr⟩
theorem LegAt.store {w : World} {o : Own'} {i : Lid} {a : Nat} {q : Lg} (h : LegAt w o i a q) {c : ByteArray} {b : Cb} {s : List Int} {x : Int} (hP : PlcR q c b s x) {sb sc r rc : Nat} (d2 : w.cell? ⟨a, 2, none⟩ = some (.slice (some ⟨sb, 0, none⟩) q.so.length sc)) (d3 : w.cell? ⟨sb, q.ci c, none⟩ = some (.slice (some ⟨r, 0, none⟩) s.length rc)) (hr : o r = .row i (q.ci c)) (hrow : Row w r s) (m : Int) :
    LegAt (w.setCell ⟨r, q.ck c, none⟩ (.int .i64 (x + m))) o i a (q.add c m) := by
  have hbut := But.setCell w r (q.ck c) (.int .i64 (x + m))
  have har : a ≠ r := fun e => by have := h.tag; rw [e, hr] at this; cases this
  obtain ⟨v, h2, h3⟩ := h.c2
  have hv : v = .slice (some ⟨sb, 0, none⟩) q.so.length sc := Option.some.inj (h2.symm.trans d2)
  have e1 : (q.add c m).so = q.so.set (q.ci c) (s.set (q.ck c) (x + m)) := by
    show addS q.so (q.ci c) (q.ck c) m = _
    rw [addS_at _ _ hP.hs, wiL_get m hP.hx]
  refine ⟨h.tag, Nat.lt_of_lt_of_le h.lt hbut.size, but_cell hbut h.c0 har, but_cell hbut h.c1 har, ⟨v, but_cell hbut h2 har, ?_⟩, but_cell hbut h.c3 har, fun j => (but_froz (a := ⟨a, j, none⟩) hbut h.lt har).trans (h.froz j)⟩
  rw [e1]
  exact h3.store hP.hs (by rw [hP.len]; exact hP.lt) hr hrow ⟨sb, sc, rc, hv, d3⟩
/-- one leg has changed -/
theorem tag_ne {o : Own'} {k : Nat} {i j : Lid} (h : o k = .leg i ∨ o k = .sl i ∨ ∃ m, o k = .row i m) (hij : i ≠ j) : (∀ m, o k ≠ .row j m) ∧ o k ≠ .sl j ∧ o k ≠ .leg j := by
  refine ⟨fun m e => ?_, fun e => ?_, fun e => ?_⟩ <;> rcases h with h | h | ⟨_, h⟩ <;> rw [h] at e <;> first | (simp at e; done) | (simp at e; first | exact hij e | exact hij e.1)
theorem LegM.upd {w w' : World} {X : Nat → Prop} {o : Own'} {b n : Nat} {g : Stk} (h : LegM w o b n g) (hb : But w w' X) (ho : o b = .map) {i : Lid} {a : Nat} {q q' : Lg} (hq : g i = some q) (ha' : LegAt w' o i a q') (hX : ∀ k, X k → o k = .leg i ∨ o k = .sl i ∨ ∃ j, o k = .row i j)
    (hu : ∀ a2, o a2 = .leg i → a2 = a) : LegM w' o b n (updS g i q') := by
  obtain ⟨hh, ⟨es, clock, h1, h2⟩, h3⟩ := h
  refine ⟨hh, ⟨es, clock, (hb.block b (Array.getElem?_eq_some_iff.1 h1).1 (fun hx => ?_)).trans h1, h2⟩, fun j => ?_⟩
  · rcases hX b hx with e | e | ⟨_, e⟩ <;> rw [ho] at e <;> cases e
  · unfold updS
    by_cases e : j = i
    · subst e
      rw [if_pos rfl]
      have h4 := h3 j
      rw [hq] at h4
      obtain ⟨a2, e2, h5⟩ := h4
      obtain rfl := hu a2 h5.tag
      exact ⟨a2, e2, ha'⟩
    · rw [if_neg e]
      have h4 := h3 j
      revert h4
      cases g j with
      | none => exact id
      | some p =>
        rintro ⟨a2, e2, h5⟩
        exact ⟨a2, e2, h5.but hb (fun k hk => tag_ne (hX k hk) (fun h => e h.symm))⟩
/-- an inventory of which one leg has changed -/
theorem StkAt.upd {w w' : World} {X R : Nat → Prop} {o : Own'} {B n : Nat} {cs : List Cf} {g : Stk} (h : StkAt w R o B n cs g) (hb : But w w' X) {i : Lid} {a : Nat} {q q' : Lg} (hq : g i = some q) (ha : LegAt w o i a q) (ha' : LegAt w' o i a q') (hX : ∀ k, X k → o k = .leg i ∨ o k = .sl i ∨ ∃ j, o k = .row i j) : StkAt w' R o B n cs (updS g i q') := by
  obtain ⟨mc, ml, nc, h1, h2, h3, h4, h5, h6, h7⟩ := h.box
  have hX2 : ∀ k, X k → ¬ R k ∧ o k ≠ .obj := fun k hk => by
    rcases hX k hk with e | e | ⟨_, e⟩ <;> exact ⟨(h.ro k (by rw [e]; exact fun h => nomatch h)).1, by rw [e]; exact fun h => nomatch h⟩
  have hB : ¬ X B := fun hx => by
    rcases h.own with e | e
    · exact (hX2 B hx).1 e
    · exact (hX2 B hx).2 e
  refine ⟨⟨mc, ml, nc, but_cell hb h1 hB, but_cell hb h2 hB, h3, h4.same (hb.block mc h4.lt (fun hx => (hX2 _ hx).1 h3)), h5, h6, h7.upd hb h6 hq ha' hX (fun a2 e => h.uniq a2 a i e ha.tag)⟩, h.own, fun f hf => ⟨(h.cfs f hf).1.but hb (fun k hk => (hX2 k hk).1), (h.cfs f hf).2⟩, fun k hk => ⟨(h.ro k hk).1, Nat.lt_of_lt_of_le (h.ro k hk).2 hb.size⟩, fun k hk => Nat.lt_of_lt_of_le (h.rlt k hk) hb.size, h.uniq, fun a2 j hj => ?_⟩
  unfold updS
  split
  · rfl
  · exact h.liv a2 j hj
/-! ### add -/
theorem addG1_at {g : Stk} {c : ByteArray} {m : Int} {i : Lid} {q : Lg} (h : g i = some q) : addG1 g c m i = updS g i (q.add c m) := by unfold addG1; rw [h]
theorem OkG.addsG {K : Int} {cs : List Cf} {c : ByteArray} {m : Int} : ∀ (is : List Lid) (g : Stk), OkG (K + max m 0) cs g → is.Nodup → (∀ i ∈ is, ∃ q, g i = some q ∧ OkL K q ∧ q.has c = true ∧ 0 ≤ q.sold c + m) → OkG (K + max m 0) cs (addG g is c m)
  | [], g, h, _, _ => h
  | i :: r, g, h, hn, hi => by
    rw [List.nodup_cons] at hn
    obtain ⟨q, hq, hL, hc, hm⟩ := hi i (by simp)
    show OkG _ cs (addG (addG1 g c m i) r c m)
    rw [addG1_at hq]
    refine OkG.addsG r _ (h.upd (hL.add hc hm) (h.leg i q hq).2) hn.2 (fun j hj => ?_)
    obtain ⟨p, h1, h2⟩ := hi j (by simp [hj])
    have hne : ¬ j = i := fun e => hn.1 (by rw [← e]; exact hj)
    exact ⟨p, by unfold updS; rw [if_neg hne]; exact h1, h2⟩
set_option maxRecDepth 100000 in
set_option maxHeartbeats 4000000 in
theorem ladd_any (R : Nat → Prop) (o : Own') (B n : Nat) (cs : List Cf) (g : Stk) (K : Int) (A : Option Addr) (cc : Nat) (is : List Lid) (c : ByteArray) (m : Int) (w : World) (hS : StkAt w R o B n cs g) (hG : OkG K cs g) (hK : 0 ≤ K ∧ K ≤ 1000000000000) (hm : -1000000 ≤ m ∧ m ≤ 1000000) (hl : is.length ≤ 1000) (hok : ∀ i ∈ is, OkD i)
    (hL : ∀ W, But w W (MutB o) → LidL W (.slice A is.length cc) is) (hn : is.Nodup) (hi : ∀ i ∈ is, ∃ q, g i = some q ∧ q.has c = true ∧ 0 ≤ q.sold c + m) :
    Calls Tryz.prog 66 #[.pointer (some ⟨B, 0, none⟩), .slice A is.length cc, .string c, .int .i64 m] w fun e w' => e = .returned (.tuple #[]) ∧ StkAt w' R o B n cs (addG g is c m) ∧ But w w' (MutB o) := by
  have HL := Lib.hid hL
  have HG : Hid (∀ k, OkG (K + max m 0) cs (addG g (is.take k) c m)) := Lib.hid (fun k => OkG.addsG (is.take k) g (hG.mono (by have := Int.le_max_right m 0; omega)) (hn.sublist (List.take_sublist k is)) (fun i h => by
    obtain ⟨q, h1, h2, h3⟩ := hi i (List.mem_of_mem_take h)
    exact ⟨q, h1, (hG.leg i q h1).1, h2, h3⟩))
  have HX : Hid (∀ k i, is[k]? = some i → OkD i ∧ ∃ q, addG g (is.take k) c m i = some q ∧ q.has c = true ∧ addG g (is.take (k + 1)) c m = updS (addG g (is.take k) c m) i (q.add c m)) := Lib.hid (fun k i hk => by
    have hmem := List.mem_of_getElem? hk
    obtain ⟨q, h1, h2, _⟩ := hi i hmem
    have hno : i ∉ is.take k := fun h => by
      obtain ⟨hk1, rfl⟩ := List.getElem?_eq_some_iff.1 hk
      obtain ⟨j, hj, e⟩ := List.getElem_of_mem h
      rw [List.getElem_take] at e
      have hj2 : j < k := by rw [List.length_take] at hj; omega
      rw [List.nodup_iff_pairwise_ne, List.pairwise_iff_getElem] at hn
      exact hn j k (by omega) hk1 hj2 e
    have e1 : addG g (is.take k) c m i = some q := by rw [addG_no g c m i _ hno]; exact h1
    refine ⟨hok i hmem, q, e1, h2, ?_⟩
    rw [List.take_add_one, hk]
    show addG g (is.take k ++ [i]) c m = _
    rw [addG_snoc, addG1_at e1])
  have HKB : Hid (K + max m 0 ≤ 1000001000000) := Lib.hid (by have : max m 0 ≤ 1000000 := Int.max_le.2 ⟨hm.2, by omega⟩; omega)
  have HS : Hid (StkAt w R o B n cs (addG g (is.take 0) c m) ∧ But w w (MutB o)) := Lib.hid ⟨hS, But.refl _ _⟩
  obtain ⟨ln, hln⟩ : ∃ ln, ln = is.length := ⟨_, rfl⟩
  have HLN := Lib.hid hln
  have HEND : Hid (addG g (is.take ln) c m = addG g is c m) := Lib.hid (by rw [hln, List.take_length])
  rw [← hln] at HL hl ⊢
  clear hln hL hn hi hok hS hG hK
  go_enter Tryz.func66, Tryz.ntmps66
  go_wp2
  go_loopw [15] (fun vi wr => ∃ k : Nat, k ≤ ln ∧ vi = .int .i64 k ∧ Hid (StkAt wr R o B n cs (addG g (is.take k) c m) ∧ But w wr (MutB o))) (fun vi _ => ln - (intOf vi).toNat)
  case atStart => exact ⟨0, Nat.zero_le _, rfl, HS⟩
  case round =>
    obtain ⟨k, hk, rfl, HH⟩ := hrel
    by_cases hlt : k < ln
    · obtain ⟨x, hx⟩ : ∃ x, is[k]? = some x := ⟨_, List.getElem?_eq_getElem (by have := HLN.out; omega)⟩
      obtain ⟨hxd, q, hq, hc, hstep⟩ := HX.out k x hx
      obtain ⟨b0, o0, eA, _, hcc⟩ := row_get (HL.out wr HH.out.2) hx
      have z0 := hcc 0 _ rfl
      have z1 := hcc 1 _ rfl
      have z2 := hcc 2 _ rfl
      have z3 := hcc 3 _ rfl
      rw [Nat.add_zero] at z0
      rw [eA]
      have hbA := bel_alloc wr (.cells #[.string x.car, .int .i64 x.num, .int .i64 x.day, .string x.frm] lidT)
      obtain ⟨l0, l1, l2, l3⟩ := lid_new wr x
      have hS1 := HH.out.1.more hbA
      have K1 := Lib.hid (lplace_yes R o B n cs _ _ x q c _ hS1 (HG.out k) hxd hq hc)
      obtain ⟨b, s, y, hP⟩ := ((HG.out k).leg x q hq).1.plc hc
      have htot := ((HG.out k).leg x q hq).1
      have hlow := htot.low s (List.mem_of_getElem? hP.hs)
      have hy0 : 0 ≤ y := hlow y (List.mem_of_getElem? hP.hx)
      have hy1 : y ≤ 1000001000000 := by
        have h1 := (tot_each htot.low s (List.mem_of_getElem? hP.hs)).2
        have h2 := take_succ_sum hP.hx
        have h3 := sum_take_le hlow (q.ck c)
        have h4 := sum_take_le hlow (q.ck c + 1)
        have h5 := htot.tot
        have := HKB.out
        omega
      have KN : Hid (∀ W a, LegAt W o x a q → ∃ sb sc r rc, W.cell? ⟨a, 2, none⟩ = some (.slice (some ⟨sb, 0, none⟩) q.so.length sc) ∧ W.cell? ⟨sb, q.ci c, none⟩ = some (.slice (some ⟨r, 0, none⟩) s.length rc) ∧ W.cell? ⟨r, q.ck c, none⟩ = some (.int .i64 y) ∧ o r = .row x (q.ci c) ∧ Row W r s ∧ q.ci c < q.so.length ∧ q.ck c < s.length) := Lib.hid (fun W a h => h.num hP)
      have HFIN : Hid (∀ W a sb sc r rc, Below (wr.alloc (.cells #[.string x.car, .int .i64 x.num, .int .i64 x.day, .string x.frm] lidT)).heap.size (wr.alloc (.cells #[.string x.car, .int .i64 x.num, .int .i64 x.day, .string x.frm] lidT)) W → LegAt W o x a q → W.cell? ⟨a, 2, none⟩ = some (.slice (some ⟨sb, 0, none⟩) q.so.length sc) → W.cell? ⟨sb, q.ci c, none⟩ = some (.slice (some ⟨r, 0, none⟩) s.length rc) → o r = .row x (q.ci c) → Row W r s →
          StkAt (W.setCell ⟨r, q.ck c, none⟩ (.int .i64 (y + m))) R o B n cs (addG g (is.take (k + 1)) c m) ∧ But w (W.setCell ⟨r, q.ck c, none⟩ (.int .i64 (y + m))) (MutB o)) := Lib.hid (fun W a sb sc r rc hW ha d2 d3 hr hrow => by
        have hbut := But.setCell W r (q.ck c) (.int .i64 (y + m))
        refine ⟨?_, ?_⟩
        · rw [hstep]
          exact (hS1.more hW).upd hbut hq ha (ha.store hP d2 d3 hr hrow m) (fun k' e => by cases e; exact .inr (.inr ⟨_, hr⟩))
        · refine (HH.out.2.trans (But.of_below (X := MutB o) (hbA.trans (hW.mono hbA.size))) (fun _ _ h => h)).trans hbut (fun k' _ e => ?_)
          cases e
          unfold MutB
          rw [hr]
          trivial)
      have hwr := IntWalk.i64_in (n := y + m) (by omega)
      have i2 : (k : Int) < (ln : Int) := by omega
      clear hx hq hc hstep hcc hbA hS1 hP htot hlow HH
      generalize q.ci c = ni at *
      generalize q.ck c = nk at *
      go_upto_region 3 with fail
      clear z0 z1 z2 z3
      generalize wr.alloc (.cells #[.string x.car, .int .i64 x.num, .int .i64 x.day, .string x.frm] lidT) = w5 at *
      go_upto_region 4 with (go_at_call 58; refine K1.out.mono ?_; rintro e w6 ⟨a, rfl, ha, hb6⟩)
      obtain ⟨sb, sc, r, rc, d2, d3, d4, hr, hrow, d5, d6⟩ := KN.out _ _ ha
      have hfz := hrow.froz nk d6
      have i3 : (0 : Int) ≤ (ni : Int) := by omega
      have i4 : (ni : Int) < (q.so.length : Int) := by omega
      have i5 : (0 : Int) ≤ (nk : Int) := by omega
      have i6 : (nk : Int) < (s.length : Int) := by omega
      have HZ := Lib.hid (HFIN.out w6 a sb sc r rc hb6 ha d2 d3 hr hrow)
      clear ha hr hrow d5 d6
      go_wp2
      go_roundw
      case rel => exact ⟨k + 1, by omega, by go_num, HZ⟩
      case measure => simp [intOf]; omega
    · obtain rfl : k = ln := by omega
      have HZ : Hid (StkAt wr R o B n cs (addG g is c m) ∧ But w wr (MutB o)) := Lib.hid (by rw [← HEND.out]; exact HH.out)
      clear HH
      go_wp2
      refine bodyPost_end (results_none rfl _ _ _) rfl ⟨rfl, HZ.out.1, HZ.out.2⟩
end Go.Proofs.YtkghpapbifijcaaGreatDoor
