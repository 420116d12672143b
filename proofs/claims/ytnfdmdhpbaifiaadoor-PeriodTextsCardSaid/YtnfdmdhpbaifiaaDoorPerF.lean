/- Walk of Normal: the loop that gathers a period's canonical form. -/
import Derived.Test.YtnfdmdhpbaifiaaDoorPerE
namespace Go.Proofs.YtnfdmdhpbaifiaaDoor
open Go.RowKit Go.Shelf
set_option linter.unusedSimpArgs false
set_option linter.unusedVariables false
attribute [local go_sem] Oper.semAt_some
attribute [local simp] wide_fn

theorem set_heap {W : World} {B : Nat} {cs : Array Value} {t : TypeId} (h : W.heap[B]? = some (.cells cs t (0, 0))) (j : Nat) (u : Value) : (W.setCell ⟨B, j, none⟩ u).heap[B]? = some (.cells (cs.setIfInBounds j u) t (0, 0)) := by
  obtain ⟨hlt, hk⟩ := Array.getElem?_eq_some_iff.1 h
  show (W.heap.modify B _)[B]? = _
  rw [Array.getElem?_eq_getElem (by rw [Array.size_modify]; exact hlt), Array.getElem_modify_self, hk]
  rfl
theorem BoxAt.set0 {W : World} {B : Nat} {p : Per} (h : BoxAt W B p) (x : Int) : BoxAt (W.setCell ⟨B, 0, none⟩ (.int .i64 x)) B (x, p.2.1, p.2.2) := set_heap h 0 _
theorem BoxAt.set1 {W : World} {B : Nat} {p : Per} (h : BoxAt W B p) (x : Int) : BoxAt (W.setCell ⟨B, 1, none⟩ (.int .i64 x)) B (p.1, x, p.2.2) := set_heap h 1 _
theorem BoxAt.set2 {W : World} {B : Nat} {p : Per} (h : BoxAt W B p) (x : Int) : BoxAt (W.setCell ⟨B, 2, none⟩ (.int .i64 x)) B (p.1, p.2.1, x) := set_heap h 2 _
theorem BoxAt.frozen {W : World} {B : Nat} {p : Per} (h : BoxAt W B p) (j : Nat) : W.frozen? ⟨B, j, none⟩ = false := by simp [World.frozen?, show W.heap[B]? = _ from h]
theorem keeps_below {B : Nat} {W W' : World} (h : Below W.heap.size W W') : KeepsFrom B W W' := ⟨h.size, fun k o _ hk _ => (h.block k (Array.getElem?_eq_some_iff.1 hk).1).trans hk⟩

theorem or_bit (m k : Nat) (hm : m < 128) (hk : k < 7) : bits .or .i64 (m : Int) (IntKind.i64.wrap (2 ^ k)) = ((m ||| 2 ^ k : Nat) : Int) := by
  have h1 := Nat.pow_le_pow_right (n := 2) (by omega) (show k ≤ 6 by omega)
  have e : (2 : Int) ^ k = ((2 ^ k : Nat) : Int) := by simp
  rw [e]
  generalize 2 ^ k = y at *
  rw [wraps7 _ (by omega) (by omega)]
  exact or7 m _ hm (by omega)

set_option maxRecDepth 100000 in
set_option maxHeartbeats 4000000 in
theorem normal_in (p : Per) (w : World) : CallsIn Fence.wide 10 Tryd.prog 10 #[encQ p] w fun e W' => e = .returned (.tuple #[encQ (ofQ (daysQ p)).1, .bool (ofQ (daysQ p)).2]) ∧ Below w.heap.size w W' := by
  refine callsIn_of_wp_marks Tryd.func10 rfl trivial ?_ rfl
  simp only [Tryd.ntmps10, List.size_toArray, List.length_cons, List.length_nil, Nat.reduceAdd, Nat.reduceSub, Array.replicate_succ, Array.replicate_zero, List.push_toArray, List.append_toArray, List.nil_append, List.cons_append]
  gi_wp2_with (gi_at_call 23; refine (each_any p _).mono ?_; rintro e w' ⟨rfl, rfl⟩)
  obtain ⟨W0, hW0⟩ : ∃ W0, W0 = (((w.alloc (.cells #[.int .i64 p.1, .int .i64 p.2.1, .int .i64 p.2.2] perT)).alloc (.cells #[.int .i64 0, .int .i64 0, .int .i64 0] perT)).alloc (.cells #[.int .i64 0, .int .i64 0, .int .i64 0] perT)).alloc (.cells #[.int .i64 p.1, .int .i64 p.2.1, .int .i64 p.2.2] perT) := ⟨_, rfl⟩
  have hsz : W0.heap.size = w.heap.size + 4 := by rw [hW0]; simp
  have bP : BoxAt W0 (w.heap.size + 1 + 1 + 1) p := by
    rw [hW0]
    have h := heap_alloc_new (((w.alloc (.cells #[.int .i64 p.1, .int .i64 p.2.1, .int .i64 p.2.2] perT)).alloc (.cells #[.int .i64 0, .int .i64 0, .int .i64 0] perT)).alloc (.cells #[.int .i64 0, .int .i64 0, .int .i64 0] perT)) (.cells #[.int .i64 p.1, .int .i64 p.2.1, .int .i64 p.2.2] perT)
    simp only [World.size_alloc] at h
    exact h
  have bN : BoxAt W0 (w.heap.size + 1 + 1) (0, 0, 0) := by
    rw [hW0]
    have h := heap_alloc_new ((w.alloc (.cells #[.int .i64 p.1, .int .i64 p.2.1, .int .i64 p.2.2] perT)).alloc (.cells #[.int .i64 0, .int .i64 0, .int .i64 0] perT)) (.cells #[.int .i64 0, .int .i64 0, .int .i64 0] perT)
    simp only [World.size_alloc] at h
    exact BoxAt.more (show BoxAt _ _ (0, 0, 0) from h) (bel_alloc _ _)
  have bR : BoxAt W0 (w.heap.size + 1) (0, 0, 0) := by
    rw [hW0]
    have h := heap_alloc_new (w.alloc (.cells #[.int .i64 p.1, .int .i64 p.2.1, .int .i64 p.2.2] perT)) (.cells #[.int .i64 0, .int .i64 0, .int .i64 0] perT)
    simp only [World.size_alloc] at h
    exact ((BoxAt.more (show BoxAt _ _ (0, 0, 0) from h) (bel_alloc _ _)).more (bel_alloc _ _))
  have hB0 : Below w.heap.size w W0 := by
    rw [hW0]
    exact ((((Below.refl _ w).alloc (Nat.le_refl _) _).alloc (by simp) _).alloc (by simp; omega) _).alloc (by simp; omega) _
  rw [show (((w.alloc (.cells #[.int .i64 p.1, .int .i64 p.2.1, .int .i64 p.2.2] perT)).alloc (.cells #[.int .i64 0, .int .i64 0, .int .i64 0] perT)).alloc (.cells #[.int .i64 0, .int .i64 0, .int .i64 0] perT)).alloc (.cells #[.int .i64 p.1, .int .i64 p.2.1, .int .i64 p.2.2] perT) = W0 from hW0.symm]
  clear hW0
  refine wpIn_rangeFunc_ownG rfl (by omega) (gf := 40) (lb := #[.pointer (some ⟨w.heap.size + 1 + 1 + 1, 0, none⟩)]) rfl trivial (enters_of Tryd.func40 (by kernel_rfl) rfl)
    (each_stops (w.heap.size + 1 + 1 + 1) w.heap.size p W0 bP) kp_t (kp_b (by omega) (by omega)) (Below.refl _ _) (fun _ => rfl)
    (fun pre W => ((BoxAt W (w.heap.size + 1 + 1) (accQ (vals pre)) ∧ BoxAt W (w.heap.size + 1) (0, 0, 0)) ∧ BoxAt W (w.heap.size + 1 + 1 + 1) p) ∧ Below w.heap.size w W)
    (fun _ _ _ => False)
    (OwnFrom.and (OwnFrom.and (OwnFrom.and (Own.from (cells_own (w.heap.size + 1 + 1) perT fun pre : List Dy => #[.int .i64 (accQ (vals pre)).1, .int .i64 (accQ (vals pre)).2.1, .int .i64 (accQ (vals pre)).2.2]) _) (Own.from (boxAt_own _ _) _)) (Own.from (boxAt_own _ p) _)) (ownFrom_below (Nat.le_refl _) (by omega)))
    (fun _ _ _ _ _ hs _ _ => hs)
    ⟨⟨⟨bN, bR⟩, bP⟩, hB0⟩
    (fun x => { tmps := #[encQ p, .pointer (some ⟨w.heap.size, 0, none⟩), .pointer (some ⟨w.heap.size + 1, 0, none⟩), .bool false, .pointer (some ⟨w.heap.size + 1 + 1, 0, none⟩), .int .i64 x.1, encQ p, .func (.func 40) #[] #[.pointer (some ⟨w.heap.size + 1 + 1 + 1, 0, none⟩)], .int .i64 x.1, undef, undef, undef, undef, undef, undef, undef, undef, undef, undef, undef, undef, undef, undef, undef, undef, undef, undef], defers := [] }) ?assign ?body ?done ?stop
  case assign =>
    intro l x W K hK
    dsimp only [encD]
    rw [zip_one]
    gi_wp2
    exact hK
  case body =>
    rintro l pre x W ⟨⟨⟨hn, hr⟩, hbp⟩, hB⟩ hlt
    have CW := Lib.hid (fun W => CallsIn.inRound l (callsIn_wide (n := 7).2 (wk_any x.1 W (by have := x.2; omega) (by have := x.2; omega))))
    have hk := wkN_lt x.1
    have hm := maskN_lt (vals pre)
    have HS := Lib.hid (accQ_snoc (vals pre) x.1)
    have hmx : Tryd.prog.follows .mixedOrders = true := by kernel_rfl
    obtain ⟨a, ha⟩ : ∃ a, a = (accQ (vals pre)).1 := ⟨_, rfl⟩
    obtain ⟨c0, c1, c2⟩ := hn.cell
    have f0 := hn.frozen 0
    have f1 := hn.frozen 1
    have f2 := hn.frozen 2
    rw [show (accQ (vals pre)).2.2 = ((maskN (vals pre) : Nat) : Int) from rfl] at c2
    generalize wkN x.1 = k at *
    have hmin : min k 64 = k := by omega
    by_cases h0 : maskN (vals pre) = 0
    · rw [h0] at c2 hm
      have HBt := or_bit 0 k (by omega) hk
      rw [if_pos h0, h0] at HS
      have hn2 : BoxAt ((W.setCell ⟨w.heap.size + 1 + 1, 0, none⟩ (.int .i64 x.1)).setCell ⟨w.heap.size + 1 + 1, 1, none⟩ (.int .i64 x.1)).drew (w.heap.size + 1 + 1) (x.1, x.1, 0) := by
        have h := ((hn.set0 x.1).set1 x.1).drew'
        rw [show (accQ (vals pre)).2.2 = ((maskN (vals pre) : Nat) : Int) from rfl, h0] at h
        exact h
      have o2 : BoxAt ((W.setCell ⟨w.heap.size + 1 + 1, 0, none⟩ (.int .i64 x.1)).setCell ⟨w.heap.size + 1 + 1, 1, none⟩ (.int .i64 x.1)).drew (w.heap.size + 1) (0, 0, 0) := ((hr.set (by simp) 0 _).set (by simp) 1 _).drew'
      have p2 : BoxAt ((W.setCell ⟨w.heap.size + 1 + 1, 0, none⟩ (.int .i64 x.1)).setCell ⟨w.heap.size + 1 + 1, 1, none⟩ (.int .i64 x.1)).drew (w.heap.size + 1 + 1 + 1) p := ((hbp.set (by simp) 0 _).set (by simp) 1 _).drew'
      have hk2 : KeepsFrom W0.heap.size W ((W.setCell ⟨w.heap.size + 1 + 1, 0, none⟩ (.int .i64 x.1)).setCell ⟨w.heap.size + 1 + 1, 1, none⟩ (.int .i64 x.1)).drew := (((KeepsOthers.setCell _ _ _).trans (KeepsOthers.setCell _ _ _)).trans (KeepsOthers.drew _)).from _
      have b2 : Below w.heap.size W ((W.setCell ⟨w.heap.size + 1 + 1, 0, none⟩ (.int .i64 x.1)).setCell ⟨w.heap.size + 1 + 1, 1, none⟩ (.int .i64 x.1)).drew := (((Below.refl w.heap.size W).setCell (p := ⟨w.heap.size + 1 + 1, 0, none⟩) (by simp; omega) _).setCell (p := ⟨w.heap.size + 1 + 1, 1, none⟩) (by simp; omega) _).drew
      gi_wp2
      gi_region_with_o (gi_at_call 24; refine (CW.out _).mono ?_; rintro e w2 ⟨rfl, hb⟩; have hn3 := hn2.more hb; have d2 := hn3.cell.2.2; have e2 := hn3.frozen 2)
      all_goals
        gi_wp2
        have hB3 := b2.trans (hb.mono (Nat.le_trans hB.size b2.size))
        have p3 := (p2.more hb).set (B' := w.heap.size + 1 + 1) (by simp) 2 (.int .i64 (bits BinOp.or IntKind.i64 0 (IntKind.i64.wrap (2 ^ k))))
        refine ⟨hk2.trans ((keeps_below hb).trans ((KeepsOthers.setCell _ _ _).from _)), ⟨hB3.setCell (p := ⟨w.heap.size + 1 + 1, 2, none⟩) (by simp; omega) _, p3.trans hbp.symm⟩, ⟨⟨?_, (o2.more hb).set (by simp) 2 _⟩, p3⟩, (hB.trans hB3).setCell (p := ⟨w.heap.size + 1 + 1, 2, none⟩) (by simp; omega) _⟩
        rw [vals_snoc, HS.out]
        have h := hn3.set2 (bits BinOp.or IntKind.i64 0 (IntKind.i64.wrap (2 ^ k)))
        rw [show bits BinOp.or IntKind.i64 0 (IntKind.i64.wrap (2 ^ k)) = _ from HBt] at h ⊢
        exact h
    · have HBt := Lib.hid (or_bit _ k hm hk)
      rw [if_neg h0] at HS
      have hne : (((maskN (vals pre) : Nat) : Int) == 0) = false := by rw [beq_eq_false_iff_ne]; omega
      have hn2 : BoxAt (W.setCell ⟨w.heap.size + 1 + 1, 1, none⟩ (.int .i64 x.1)).drew (w.heap.size + 1 + 1) ((vals pre).headD 0, x.1, ((maskN (vals pre) : Nat) : Int)) := (hn.set1 x.1).drew'
      have o2 : BoxAt (W.setCell ⟨w.heap.size + 1 + 1, 1, none⟩ (.int .i64 x.1)).drew (w.heap.size + 1) (0, 0, 0) := (hr.set (by simp) 1 _).drew'
      have p2 : BoxAt (W.setCell ⟨w.heap.size + 1 + 1, 1, none⟩ (.int .i64 x.1)).drew (w.heap.size + 1 + 1 + 1) p := (hbp.set (by simp) 1 _).drew'
      have hk2 : KeepsFrom W0.heap.size W (W.setCell ⟨w.heap.size + 1 + 1, 1, none⟩ (.int .i64 x.1)).drew := ((KeepsOthers.setCell _ _ _).trans (KeepsOthers.drew _)).from _
      have b2 : Below w.heap.size W (W.setCell ⟨w.heap.size + 1 + 1, 1, none⟩ (.int .i64 x.1)).drew := ((Below.refl w.heap.size W).setCell (p := ⟨w.heap.size + 1 + 1, 1, none⟩) (by simp; omega) _).drew
      generalize maskN (vals pre) = m at *
      gi_wp2
      gi_region_with_o (gi_at_call 24; refine (CW.out _).mono ?_; rintro e w2 ⟨rfl, hb⟩; have hn3 := hn2.more hb; have d2 := hn3.cell.2.2; have e2 := hn3.frozen 2)
      all_goals
        gi_wp2
        have hB3 := b2.trans (hb.mono (Nat.le_trans hB.size b2.size))
        have p3 := (p2.more hb).set (B' := w.heap.size + 1 + 1) (by simp) 2 (.int .i64 (bits BinOp.or IntKind.i64 (m : Int) (IntKind.i64.wrap (2 ^ k))))
        refine ⟨hk2.trans ((keeps_below hb).trans ((KeepsOthers.setCell _ _ _).from _)), ⟨hB3.setCell (p := ⟨w.heap.size + 1 + 1, 2, none⟩) (by simp; omega) _, p3.trans hbp.symm⟩, ⟨⟨?_, (o2.more hb).set (by simp) 2 _⟩, p3⟩, (hB.trans hB3).setCell (p := ⟨w.heap.size + 1 + 1, 2, none⟩) (by simp; omega) _⟩
        rw [vals_snoc, HS.out]
        have h := hn3.set2 (bits BinOp.or IntKind.i64 (m : Int) (IntKind.i64.wrap (2 ^ k)))
        rw [HBt.out] at h ⊢
        exact h
  case done =>
    rintro D ys W hD hys ⟨⟨⟨hn, hr⟩, hbp⟩, hB⟩ hK
    rw [hys] at hn
    have HA : Hid (ofQ (daysQ p) = (accQ (daysQ p), ((accQ (daysQ p)).2.2 != 0))) := Lib.hid (by
      rw [ofQ]
      congr 1
      have h := maskN_zero (daysQ p)
      show decide _ = (((maskN (daysQ p) : Nat) : Int) != 0)
      by_cases h0 : daysQ p = []
      · rw [h.2 h0]; simp [h0]
      · have : maskN (daysQ p) ≠ 0 := fun e => h0 (h.1 e)
        simp [h0]; omega)
    generalize accQ (daysQ p) = q at *
    obtain ⟨c0, c1, c2⟩ := hn.cell
    have f0 := hr.frozen 0
    have f1 := hr.frozen 1
    have f2 := hr.frozen 2
    have r0 := hr.cell.1
    have r1 := hr.cell.2.1
    have r2 := hr.cell.2.2
    have hr5 : BoxAt (((W.setCell ⟨w.heap.size + 1, 0, none⟩ (.int .i64 q.1)).setCell ⟨w.heap.size + 1, 1, none⟩ (.int .i64 q.2.1)).setCell ⟨w.heap.size + 1, 2, none⟩ (.int .i64 q.2.2)).drew (w.heap.size + 1) q := (((hr.set0 q.1).set1 q.2.1).set2 q.2.2).drew'
    have hK5 : (((W.setCell ⟨w.heap.size + 1, 0, none⟩ (.int .i64 q.1)).setCell ⟨w.heap.size + 1, 1, none⟩ (.int .i64 q.2.1)).setCell ⟨w.heap.size + 1, 2, none⟩ (.int .i64 q.2.2)).drew.heap[D]? = some (.deferred (some [])) :=
      (Below.heap_setCell _ _ _ D (by simp; omega)).trans ((Below.heap_setCell _ _ _ D (by simp; omega)).trans ((Below.heap_setCell _ _ _ D (by simp; omega)).trans hK))
    have hB5 : Below w.heap.size w (((W.setCell ⟨w.heap.size + 1, 0, none⟩ (.int .i64 q.1)).setCell ⟨w.heap.size + 1, 1, none⟩ (.int .i64 q.2.1)).setCell ⟨w.heap.size + 1, 2, none⟩ (.int .i64 q.2.2)).drew :=
      (((hB.setCell (p := ⟨w.heap.size + 1, 0, none⟩) (by simp) _).setCell (p := ⟨w.heap.size + 1, 1, none⟩) (by simp) _).setCell (p := ⟨w.heap.size + 1, 2, none⟩) (by simp) _).drew
    gi_wp2
    gi_region
    generalize (((W.setCell ⟨w.heap.size + 1, 0, none⟩ (.int .i64 q.1)).setCell ⟨w.heap.size + 1, 1, none⟩ (.int .i64 q.2.1)).setCell ⟨w.heap.size + 1, 2, none⟩ (.int .i64 q.2.2)).drew = W5 at *
    gi_wp2
    refine ⟨by simp, .inl ⟨_, _, rfl, run_takeDeferred hK5, ?_⟩⟩
    have hb6 : BoxAt (W5.putObj D (.deferred none)) (w.heap.size + 1) q := (World.putObj_heap_other (by omega)).trans hr5
    obtain ⟨d0, d1, d2⟩ := hb6.cell
    refine ⟨.tuple #[encQ q, .bool (q.2.2 != 0)], ?_, by rw [HA.out], hB5.trans (belowK_b (w := w) (Nat.le_refl _) W5 D _ _ (by omega) hK5 rfl rfl)⟩
    simp [results, Tryd.f10, go_sem, d0, d1, d2]
  case stop =>
    rintro D c pre W _ _ h _
    exact h.elim

end Go.Proofs.YtnfdmdhpbaifiaaDoor
