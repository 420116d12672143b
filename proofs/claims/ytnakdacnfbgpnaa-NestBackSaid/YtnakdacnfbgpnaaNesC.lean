/- What the nested sales leave of the booking limits. -/
import Derived.Test.YtnakdacnfbgpnaaNesA
import Derived.Test.YtnakdacnfbgpnaaNesB
import Derived.RangeFuncWrites
namespace Go.Proofs.Ytnakdacnfbgpnaa
open Go.RowKit Go.Shelf
set_option linter.unusedSimpArgs false
set_option linter.unusedVariables false
attribute [local go_sem] Oper.semAt_some
attribute [local simp] wide_fn

/-! ### what the loop does, as folds over what has come -/
def upd (f : Nat → Int) (k : Nat) (x : Int) : Nat → Int := fun j => if j = k then x else f j
theorem tab_upd (f : Nat → Int) (n k : Nat) (x : Int) : (tab f n).set k x = tab (upd f k x) n := by
  apply List.ext_getElem
  · simp [tab]
  · intro i h1 h2
    have h1' : i < n := by simpa [tab] using h1
    rw [List.getElem_set]
    simp only [tab, List.getElem_map, List.getElem_range, upd]
    by_cases e : k = i
    · subst e; simp
    · rw [if_neg e, if_neg (fun h => e h.symm)]
def ns1 (t : Int × (Nat → Int)) (x : Nat × Int) : Int × (Nat → Int) := (wrap64 (t.1 + x.2), upd t.2 x.1 (wrap64 (t.2 x.1 - wrap64 (t.1 + x.2))))
def nsL {s : List Int} (f : Nat → Int) (l : List (Bk s)) : Int × (Nat → Int) := (l.map (fun x => x.1)).foldl ns1 (0, f)
theorem nsL_snoc {s : List Int} (f : Nat → Int) (l : List (Bk s)) (x : Bk s) : nsL f (l ++ [x]) = ns1 (nsL f l) x.1 := by simp [nsL]
theorem nsL_dn {s : List Int} {b : Cb} (hP : LimP b) (hr : rgtB b s = true) : ∀ (k : Nat) (l : List (Bk s)), k ≤ s.length → bks l = dn s.length k → (nsL (limA b) l).1 = nsF s (s.length - k) ∧ ∀ j, (nsL (limA b) l).2 j = if s.length - k ≤ j ∧ j < s.length then leF b s j else limA b j
  | 0, l, hk, h => by
    have : l = [] := by
      have := congrArg List.length h
      rw [bks_len] at this
      exact List.eq_nil_of_length_eq_zero this
    subst this
    refine ⟨?_, fun j => ?_⟩
    · show (0 : Int) = _
      rw [nsF_end s _ (by omega)]
    · rw [if_neg (by omega)]; rfl
  | k + 1, l, hk, h => by
    obtain ⟨q, x, rfl⟩ : ∃ q x, l = q ++ [x] := by
      rcases List.eq_nil_or_concat l with e | ⟨q, x, e⟩
      · subst e
        have := congrArg List.length h
        rw [bks_len, dn_len] at this
        cases this
      · exact ⟨q, x, by rw [e, List.concat_eq_append]⟩
    rw [bks_snoc] at h
    obtain ⟨h1, h2⟩ := List.append_inj h (by rw [bks_len, dn_len]; have := congrArg List.length h; rw [List.length_append, bks_len, dn_len] at this; simpa using this)
    have hx : x.1.1 = s.length - 1 - k := by simpa using h2
    obtain ⟨i1, i2⟩ := nsL_dn hP hr k q (by omega) h1
    obtain ⟨hlen, hall⟩ := rgtB_yes hr
    have hget := x.2
    have hst := nsF_step s x.1.1 x.1.2 hget
    have hb1 := nsF_in s hall (s.length - k)
    have hb2 := nsF_in s hall x.1.1
    have hb3 := hP.len
    have hb4 := limA_in hP x.1.1
    have e1 : s.length - k = x.1.1 + 1 := by omega
    have e2 : s.length - (k + 1) = x.1.1 := by omega
    have w1 : wrap64 ((nsL (limA b) q).1 + x.1.2) = nsF s x.1.1 := by
      rw [i1, e1, hst]
      rw [hst] at hb2
      unfold wrap64; omega
    rw [nsL_snoc]
    unfold ns1
    dsimp only
    rw [w1, e2]
    refine ⟨rfl, fun j => ?_⟩
    unfold upd
    by_cases e : j = x.1.1
    · subst e
      rw [if_pos rfl, if_pos (by omega), i2, if_neg (by omega)]
      unfold leF wrap64
      omega
    · rw [if_neg e, i2]
      by_cases h3 : s.length - k ≤ j ∧ j < s.length
      · rw [if_pos h3, if_pos (by omega)]
      · rw [if_neg h3, if_neg (by omega)]
theorem nsL_all {s : List Int} {b : Cb} (hP : LimP b) (hr : rgtB b s = true) (l : List (Bk s)) (h : bks l = dn s.length s.length) : tab (nsL (limA b) l).2 s.length = tab (leF b s) s.length := by
  obtain ⟨_, h2⟩ := nsL_dn hP hr s.length l (Nat.le_refl _) h
  apply List.ext_getElem
  · simp [tab]
  · intro i h3 h4
    have h3' : i < s.length := by simpa [tab] using h3
    simp only [tab, List.getElem_map, List.getElem_range]
    rw [h2 i, if_pos (by omega)]
theorem Row.kept {W W' : World} {row : Option Nat} {b : Nat} {l : List Int} (h : Row W b l) (hg : W.grownBy W' row) (hr : ∀ r, row = some r → ∃ o : Obj, W.heap[r]? = some o ∧ o.isCells = false) : Row W' b l :=
  ⟨fun j hj => cell_kept (h.cell j hj) hg hr, fun j hj => (frozen_kept (h.cell j hj) hg hr).trans (h.froz j hj), Nat.lt_of_lt_of_le h.lt hg.size⟩
theorem row_own {β : Type} (g : Nat) (f : β → List Int) : Own (fun s W => Row W g (f s)) := fun s X Y row hs hg hr => hs.kept hg hr
theorem Row.setB {W : World} {b c : Nat} {l : List Int} (h : Row W b l) (hne : c ≠ b) (k : Nat) (v : Value) : Row (W.setCell ⟨c, k, none⟩ v) b l := h.other hne k v

set_option maxRecDepth 100000 in
set_option maxHeartbeats 4000000 in
theorem left_in (b : Cb) (A : Option Addr) (c : Nat) (s : List Int) (w : World) (hb : CbAt w b) (hP : LimP b) (hr : rgtB b s = true) (hL : IntR w (.slice A s.length c) s) :
    CallsIn Fence.wide 10 Try.prog 24 #[aggCb b, .slice A s.length c] w fun e W' => ∃ g c', e = .returned (.slice (some ⟨g, 0, none⟩) s.length c') ∧ w.heap.size ≤ g ∧ Row W' g (tab (leF b s) s.length) ∧ Below w.heap.size w W' := by
  obtain ⟨hlen, hall⟩ := rgtB_yes hr
  have hs30 := hP.len
  have hbA := bel_alloc w (.cells #[.string b.name, .int .i64 b.seats, .int .i64 b.over, .slice b.A b.l.length b.c] cbT)
  have q0 := (cells_new w #[.string b.name, .int .i64 b.seats, .int .i64 b.over, .slice b.A b.l.length b.c] cbT 0).trans (show _ = some (Value.string b.name) from rfl)
  have q1 := (cells_new w #[.string b.name, .int .i64 b.seats, .int .i64 b.over, .slice b.A b.l.length b.c] cbT 1).trans (show _ = some (Value.int .i64 b.seats) from rfl)
  have q2 := (cells_new w #[.string b.name, .int .i64 b.seats, .int .i64 b.over, .slice b.A b.l.length b.c] cbT 2).trans (show _ = some (Value.int .i64 b.over) from rfl)
  have q3 := (cells_new w #[.string b.name, .int .i64 b.seats, .int .i64 b.over, .slice b.A b.l.length b.c] cbT 3).trans (show _ = some (Value.slice b.A b.l.length b.c) from rfl)
  have HH := Lib.hid (show LimP b ∧ rgtB b s = true ∧ IntR w (.slice A s.length c) s ∧ s.length = b.l.length ∧ Below w.heap.size w (w.alloc (.cells #[.string b.name, .int .i64 b.seats, .int .i64 b.over, .slice b.A b.l.length b.c] cbT)) from ⟨hP, hr, hL, hlen, hbA⟩)
  obtain ⟨n, hn⟩ : ∃ n, n = s.length := ⟨_, rfl⟩
  have HN := Lib.hid hn
  have hn30 : n ≤ 30 := by omega
  have KL : Hid (∀ W, SW w W → Calls Try.prog 36 #[aggCb b] W fun e w' => ∃ g c, e = .returned (.slice (some ⟨g, 0, none⟩) n c) ∧ W.heap.size ≤ g ∧ Row w' g (tab (limA b) n) ∧ Below W.heap.size W w') := Lib.hid (fun W h => by rw [HN.out, hlen]; exact limits_own b W (hb.more h) hP)
  rw [← hn]
  clear hP hr hL hb hlen hall hn hs30
  refine callsIn_of_wp_marks Try.func24 rfl trivial ?_ rfl
  simp only [Try.ntmps24, List.size_toArray, List.length_cons, List.length_nil, Nat.reduceAdd, Nat.reduceSub, Array.replicate_succ, Array.replicate_zero, List.push_toArray, List.append_toArray, List.nil_append, List.cons_append]
  gi_wp2_with (first
    | (gi_at_call 36; refine (callsIn_wide.2 (KL.out _ hbA)).mono ?_; rintro e w1 ⟨g, c1, rfl, hg, hrow, hb1⟩)
    | (gi_at_call 37; refine (back_any _ _ _ _).mono ?_; rintro e w2 ⟨rfl, rfl⟩))
  have hgz := hrow.lt
  have hwg : w.heap.size ≤ g := by rw [World.size_alloc] at hg; omega
  have hw1 : Below w.heap.size w w1 := hbA.trans (hb1.mono hbA.size)
  have hwz := hw1.size
  clear hg hb1 q0 q1 q2 q3 hbA
  obtain ⟨W0, hW0⟩ : ∃ W0, W0 = ((w1.alloc (.cells #[.slice (some ⟨g, 0, none⟩) n c1] insT)).alloc (.cells #[.int .i64 0] inT)).alloc (.cells #[.slice A n c] insT) := ⟨_, rfl⟩
  have hs0 : W0.heap.size = w1.heap.size + 3 := by rw [hW0]; simp
  have b1 : Boxed W0 w1.heap.size insT (.slice (some ⟨g, 0, none⟩) n c1) := by
    rw [hW0]
    exact ((Boxed.new w1 insT (.slice (some ⟨g, 0, none⟩) n c1)).alloc _).alloc _
  have b2 : Boxed W0 (w1.heap.size + 1) inT (.int .i64 0) := by
    rw [hW0]
    have h := Boxed.new (w1.alloc (.cells #[.slice (some ⟨g, 0, none⟩) n c1] insT)) inT (.int .i64 0)
    rw [World.size_alloc] at h
    exact h.alloc _
  have b3 : Boxed W0 (w1.heap.size + 1 + 1) insT (.slice A n c) := by
    rw [hW0]
    have h := Boxed.new ((w1.alloc (.cells #[.slice (some ⟨g, 0, none⟩) n c1] insT)).alloc (.cells #[.int .i64 0] inT)) insT (.slice A n c)
    simp only [World.size_alloc] at h
    exact h
  have r0 : Row W0 g (tab (limA b) n) := by
    rw [hW0]
    exact ((hrow.alloc _).alloc _).alloc _
  have hB0 : Below w.heap.size w W0 := by
    rw [hW0]
    exact ((hw1.alloc (by omega) _).alloc (by simp; omega) _).alloc (by simp; omega) _
  rw [show ((w1.alloc (.cells #[.slice (some ⟨g, 0, none⟩) n c1] insT)).alloc (.cells #[.int .i64 0] inT)).alloc (.cells #[.slice A n c] insT) = W0 from hW0.symm]
  clear hW0 hrow
  have hIB : InB w.heap.size W0 A s := (inB_of HH.out.2.2.1).more hB0
  obtain ⟨Z, hZ⟩ : ∃ Z, Z = w1.heap.size := ⟨_, rfl⟩
  rw [← hZ] at hs0 b1 b2 b3 hgz hwz ⊢
  have hzW : w.heap.size ≤ W0.heap.size := by omega
  clear hZ hw1
  refine wpIn_rangeFunc_ownG rfl (by omega) (gf := 47) (lb := #[.pointer (some ⟨Z + 1 + 1, 0, none⟩)]) rfl trivial (enters_of Try.func47 (by kernel_rfl) rfl)
    (back_stops (Z + 1 + 1) w.heap.size A c s (by have := HN.out; omega) W0 hzW (by rw [← HN.out]; exact b3) hIB) kp_t (kp_b hzW (by omega)) (Below.refl _ _) (fun _ => rfl)
    (fun pre W => ((Boxed W (Z + 1) inT (.int .i64 (nsL (limA b) pre).1) ∧ Row W g (tab (nsL (limA b) pre).2 n)) ∧ Boxed W Z insT (.slice (some ⟨g, 0, none⟩) n c1)) ∧ Below w.heap.size w W)
    (fun _ _ _ => False)
    (OwnFrom.and (OwnFrom.and (OwnFrom.and (Own.from (boxed_own _ _ (fun pre : List (Bk s) => Value.int .i64 (nsL (limA b) pre).1)) _) (Own.from (row_own g (fun pre : List (Bk s) => tab (nsL (limA b) pre).2 n)) _)) (Own.from (boxed_own _ _ (fun _ => Value.slice (some ⟨g, 0, none⟩) n c1)) _)) (ownFrom_below (Nat.le_refl _) hzW))
    (fun _ _ _ _ _ hs _ _ => hs)
    ⟨⟨⟨b2, r0⟩, b1⟩, hB0⟩
    (fun x => { tmps := #[aggCb b, .slice A n c, .pointer (some ⟨w.heap.size, 0, none⟩), undef, .slice none 0 0, .pointer (some ⟨Z, 0, none⟩), .pointer (some ⟨Z + 1, 0, none⟩), .int .i64 (x.1.1 : Int), .int .i64 x.1.2, aggCb b, .slice (some ⟨g, 0, none⟩) n c1, .slice A n c, .func (.func 47) #[] #[.pointer (some ⟨Z + 1 + 1, 0, none⟩)], .int .i64 (x.1.1 : Int), .int .i64 x.1.2, undef, undef, undef, undef, undef, undef, undef, undef, undef, undef, undef], defers := [] }) ?assign ?body ?done ?stop
  case assign =>
    intro l x W K hK
    dsimp only [encB]
    rw [zip_two]
    gi_wp2
    exact hK
  case body =>
    rintro l pre ⟨⟨k, x⟩, hx⟩ W ⟨⟨⟨hbn, hrw⟩, hbl⟩, hB⟩ hlt
    dsimp only at hx ⊢
    clear hs0 b1 b2 b3 r0 hB0 hIB
    have hkn : k < n := by have := (List.getElem?_eq_some_iff.1 hx).1; have := HN.out; omega
    have HS := Lib.hid (nsL_snoc (limA b) pre ⟨(k, x), hx⟩)
    generalize nsL (limA b) pre = t at *
    obtain ⟨tn, tf⟩ := t
    dsimp only at hbn hrw
    have c2 := hbn.cell
    have f2 := hbn.frozen
    have k1 : (k : Int) < (n : Int) := by omega
    have hbn1 := hbn.set (.int .i64 (wrap64 (tn + x)))
    have hbl1 := hbl.other (B' := Z + 1) (by omega) (.int .i64 (wrap64 (tn + x)))
    have hrw1 := hrw.other (c := Z + 1) (by omega) 0 (.int .i64 (wrap64 (tn + x)))
    have HK1 : Hid (Row (W.setCell ⟨Z + 1, 0, none⟩ (.int .i64 (wrap64 (tn + x)))) g (tab tf n)) := Lib.hid hrw1
    have HB1 : Hid (Below w.heap.size W (W.setCell ⟨Z + 1, 0, none⟩ (.int .i64 (wrap64 (tn + x)))) ∧ (W.setCell ⟨Z + 1, 0, none⟩ (.int .i64 (wrap64 (tn + x)))).heap[Z + 1 + 1]? = W.heap[Z + 1 + 1]?) := Lib.hid ⟨(Below.refl w.heap.size W).setCell (p := ⟨Z + 1, 0, none⟩) (by show w.heap.size ≤ Z + 1; omega) _, Below.heap_setCell _ _ _ _ (by simp)⟩
    have hk1 : KeepsFrom W0.heap.size W (W.setCell ⟨Z + 1, 0, none⟩ (.int .i64 (wrap64 (tn + x)))) := (KeepsOthers.setCell _ _ _).from _
    have d0 := hbl1.cell
    have d1 := hbn1.cell
    have d2 : (W.setCell ⟨Z + 1, 0, none⟩ (.int .i64 (wrap64 (tn + x)))).cell? ⟨g, k, none⟩ = some (.int .i64 (tf k)) := by
      have h := hrw1.cell k (by rw [tab_len]; exact hkn)
      rw [h]; simp [tab]
    have d3 := hrw1.froz k (by rw [tab_len]; exact hkn)
    gi_wp2
    rw [show ns1 (tn, tf) (k, x) = (wrap64 (tn + x), upd tf k (wrap64 (tf k - wrap64 (tn + x)))) from rfl] at HS
    generalize wrap64 (tn + x) = m at *
    generalize W.setCell ⟨Z + 1, 0, none⟩ (.int .i64 m) = W1 at *
    have e0 : W1.drew.cell? ⟨Z, 0, none⟩ = some (.slice (some ⟨g, 0, none⟩) n c1) := d0
    have e1 : W1.drew.cell? ⟨Z + 1, 0, none⟩ = some (.int .i64 m) := d1
    have e2 : W1.drew.cell? ⟨g, k, none⟩ = some (.int .i64 (tf k)) := d2
    have e3 : W1.drew.frozen? ⟨g, k, none⟩ = false := d3
    have hm : Try.prog.follows .mixedOrders = true := by kernel_rfl
    have HF : Hid (KeepsFrom W0.heap.size W (W1.setCell ⟨g, k, none⟩ (.int .i64 (IntKind.i64.wrap (tf k - m)))).drew ∧ KpB w.heap.size (Z + 1 + 1) W (W1.setCell ⟨g, k, none⟩ (.int .i64 (IntKind.i64.wrap (tf k - m)))).drew ∧
        ((Boxed (W1.setCell ⟨g, k, none⟩ (.int .i64 (IntKind.i64.wrap (tf k - m)))).drew (Z + 1) inT (.int .i64 (nsL (limA b) (pre ++ [⟨(k, x), hx⟩])).1) ∧ Row (W1.setCell ⟨g, k, none⟩ (.int .i64 (IntKind.i64.wrap (tf k - m)))).drew g (tab (nsL (limA b) (pre ++ [⟨(k, x), hx⟩])).2 n)) ∧
        Boxed (W1.setCell ⟨g, k, none⟩ (.int .i64 (IntKind.i64.wrap (tf k - m)))).drew Z insT (.slice (some ⟨g, 0, none⟩) n c1)) ∧ Below w.heap.size w (W1.setCell ⟨g, k, none⟩ (.int .i64 (IntKind.i64.wrap (tf k - m)))).drew) := Lib.hid (by
      have hS : ∀ (B : Nat) (t : TypeId) (v : Value), B ≠ g → Boxed W1 B t v → Boxed (W1.setCell ⟨g, k, none⟩ (.int .i64 (IntKind.i64.wrap (tf k - m)))).drew B t v := fun B t v hne h => (Below.heap_setCell _ _ _ B hne).trans h
      rw [HS.out]
      refine ⟨hk1.trans (((KeepsOthers.setCell _ _ _).trans (KeepsOthers.drew _)).from _), ⟨HB1.out.1.trans (((Below.refl w.heap.size W1).setCell (p := ⟨g, k, none⟩) (by show w.heap.size ≤ g; exact hwg) _).drew), ?_⟩, ⟨⟨hS _ _ _ (by omega) hbn1, ?_⟩, hS _ _ _ (by omega) hbl1⟩, (hB.trans HB1.out.1).trans (((Below.refl w.heap.size W1).setCell (p := ⟨g, k, none⟩) (by show w.heap.size ≤ g; exact hwg) _).drew)⟩
      · exact (Below.heap_setCell _ _ _ _ (by simp; omega)).trans HB1.out.2
      · have h := (hrw1.set k (by rw [tab_len]; exact hkn) (IntKind.i64.wrap (tf k - m))).drew
        rw [tab_upd] at h
        show Row _ g (tab (upd tf k (wrap64 (tf k - m))) n)
        rw [← show IntKind.i64.wrap (tf k - m) = wrap64 (tf k - m) by first | rfl | (rw [IntKind.wrap_i64]; unfold wrap64; omega)]
        exact h)
    clear d0 d1 d2 d3 c2 f2 hbn hrw hbl hbn1 hbl1 hrw1 HK1 hk1 HB1 hB
    gi_region_with_o (fail)
    all_goals
      gi_wp2
      exact HF.out
  case done =>
    rintro D ys W hD hys ⟨⟨⟨hbn, hrw⟩, hbl⟩, hB⟩ hK
    obtain ⟨hP, hr, hL, hlen, _⟩ := HH.out
    have HA := nsL_all hP hr ys hys
    rw [← HN.out] at HA
    rw [HA] at hrw
    have hc := hbl.cell
    clear hbn
    gi_wp2
    refine ⟨by simp, .inl ⟨_, _, rfl, run_takeDeferred hK, ?_⟩⟩
    exact ⟨_, results_tmp rfl _ _ _, g, c1, rfl, hwg, hrw.kept (grownBy_putObj' _ D (.deferred none)) (fun r e => by cases e; exact ⟨_, hK, rfl⟩), hB.trans (belowK_b (w := w) (Nat.le_refl _) W D _ _ (by omega) hK rfl rfl)⟩
  case stop =>
    rintro D c pre W _ _ h _
    exact h.elim
end Go.Proofs.Ytnakdacnfbgpnaa
