/- Expire. -/
import Derived.Test.YthillkbcbklhaaaHldI
namespace Go.Proofs.Ythillkbcbklhaaa
open Go.RowKit Go.Shelf Go.Maps Go.MapKept
set_option linter.unusedSimpArgs false
set_option linter.unusedVariables false

/-- the holds that are left behind the first k, in the order of the list -/
def stH (m : Int) (hs : List Hd) (k : Nat) : List Hd := restH m (hs.take k) ++ hs.drop k
theorem stH_zero (m : Int) (hs : List Hd) : stH m hs 0 = hs := by unfold stH restH; simp
theorem stH_end (m : Int) (hs : List Hd) : stH m hs hs.length = restH m hs := by unfold stH; simp
theorem stH_sub (m : Int) (hs : List Hd) (k : Nat) : (stH m hs k).Sublist hs := by
  unfold stH restH
  have h1 : ((hs.take k).filter fun h => !endB m h).Sublist (hs.take k) := List.filter_sublist
  have h2 := h1.append (List.Sublist.refl (hs.drop k))
  rwa [List.take_append_drop] at h2
theorem stH_keep {m : Int} {hs : List Hd} {k : Nat} {x : Hd} (hx : hs[k]? = some x) (he : endB m x = false) : stH m hs (k + 1) = stH m hs k := by
  have hk := (List.getElem?_eq_some_iff.1 hx).1
  have h1 : hs.drop k = x :: hs.drop (k + 1) := by
    rw [List.drop_eq_getElem_cons hk]
    rw [(List.getElem?_eq_some_iff.1 hx).2]
  unfold stH restH
  rw [h1, List.take_add_one, hx, List.filter_append]
  simp [he]
theorem stH_drop {m : Int} {hs : List Hd} (hs0 : SrtH hs) {k : Nat} {x : Hd} (hx : hs[k]? = some x) (he : endB m x = true) : stH m hs (k + 1) = dropH (stH m hs k) x.id := by
  have hk := (List.getElem?_eq_some_iff.1 hx).1
  have hxe := (List.getElem?_eq_some_iff.1 hx).2
  have h1 : hs.drop k = x :: hs.drop (k + 1) := by
    rw [List.drop_eq_getElem_cons hk, hxe]
  have hn := hs0.ids
  rw [List.nodup_iff_pairwise_ne, List.pairwise_iff_getElem] at hn
  have hne : ∀ (i : Nat) (hi : i < hs.length), i ≠ k → (hs[i]).id ≠ x.id := fun i hi hik e => by
    rw [← hxe] at e
    rcases Nat.lt_or_gt_of_ne hik with h | h
    · exact hn i k (by simpa using hi) (by simpa using hk) h (by simpa using e)
    · exact hn k i (by simpa using hk) (by simpa using hi) h (by simpa using e.symm)
  have f1 : dropH (hs.take k) x.id = hs.take k := by
    unfold dropH
    rw [List.filter_eq_self]
    intro y hy
    obtain ⟨i, hi, rfl⟩ := List.getElem_of_mem hy
    rw [List.length_take] at hi
    rw [List.getElem_take]
    have := hne i (by omega) (by omega)
    simpa using this
  have f2 : dropH (hs.drop (k + 1)) x.id = hs.drop (k + 1) := by
    unfold dropH
    rw [List.filter_eq_self]
    intro y hy
    obtain ⟨i, hi, rfl⟩ := List.getElem_of_mem hy
    rw [List.length_drop] at hi
    rw [List.getElem_drop]
    have := hne (k + 1 + i) (by omega) (by omega)
    simpa using this
  have f3 : dropH (restH m (hs.take k)) x.id = restH m (hs.take k) := by
    unfold dropH at f1 ⊢
    rw [List.filter_eq_self] at f1 ⊢
    intro y hy
    unfold restH at hy
    exact f1 y (List.mem_filter.1 hy).1
  have e1 : stH m hs (k + 1) = restH m (hs.take k) ++ hs.drop (k + 1) := by
    unfold stH restH
    rw [List.take_add_one, hx, List.filter_append]
    simp [he]
  have e2 : dropH (stH m hs k) x.id = dropH (restH m (hs.take k)) x.id ++ dropH (x :: hs.drop (k + 1)) x.id := by
    unfold stH
    rw [h1]
    unfold dropH
    rw [List.filter_append]
  rw [e1, e2, f3]
  congr 1
  have e3 : dropH (x :: hs.drop (k + 1)) x.id = dropH (hs.drop (k + 1)) x.id := by
    unfold dropH
    rw [List.filter_cons]
    simp
  rw [e3, f2]
theorem gone_succ {m : Int} {hs : List Hd} {k : Nat} {x : Hd} (hx : hs[k]? = some x) : goneH m (hs.take (k + 1)) = goneH m (hs.take k) ++ if endB m x = true then [x] else [] := by
  unfold goneH
  rw [List.take_add_one, hx, List.filter_append]
  cases he : endB m x <;> simp [he]
/-- what Expire hands back: the holds as they lay in the set -/
def ExpR (hs : List Hd) (m : Int) (w : World) (e : Ending) (w' : World) : Prop := ∃ A c, e = .returned (.slice A (goneH m hs).length c) ∧ HdL w' (.slice A (goneH m hs).length c) (goneH m hs) ∧ RowIn (fun t => w.heap.size ≤ t) 5 encH w' A (goneH m hs)
set_option maxRecDepth 100000 in
set_option maxHeartbeats 1000000 in
theorem exp_void (p : Option Addr) (m : Int) (w : World) (hv : VoidH w p) : Calls Try.prog 19 #[.pointer p, .int .i64 m] w fun e w' => e = .returned (.slice none 0 0) ∧ w' = w := by
  have K := Lib.hid (sorted_void p w hv)
  clear hv
  go_enter Try.func19, Try.ntmps19
  go_upto_region 3 with (go_at_call 33; (with_reducible refine K.out.mono ?_); rintro e w6 ⟨rfl, rfl⟩)
  go_loopw [5, 11] (fun v5 vi wr => v5 = .slice none 0 0 ∧ vi = .int .i64 0 ∧ wr = w6) (fun _ _ _ => 0)
  case atStart => exact ⟨rfl, rfl, rfl⟩
  case round =>
    obtain ⟨rfl, rfl, rfl⟩ := hrel
    go_wp2
    go_ret
    exact ⟨rfl, rfl⟩
set_option maxRecDepth 100000 in
set_option maxHeartbeats 8000000 in
theorem exp_any {B mb n : Nat} {hs : List Hd} (m : Int) (w : World) (hS : HldAt w B mb n hs) (hn : n ≤ 1000) :
    Calls Try.prog 19 #[.pointer (some ⟨B, 0, none⟩), .int .i64 m] w fun e w' => ExpR hs m w e w' ∧ HldAt w' B mb n (restH m hs) ∧ But w w' (fun k => k = mb) := by
  have K0 := Lib.hid (sorted_any w hS hn)
  have HS := Lib.hid hS
  have HSR := Lib.hid hS.srt
  have HLT := Lib.hid hS.map.lt
  clear hS
  unfold ExpR
  go_enter Try.func19, Try.ntmps19
  go_upto_region 2 with fail
  go_upto_region 3 with (go_at_call 33; (with_reducible refine K0.out.mono ?_); rintro e w6 ⟨v, rfl, hO, hln, hb6⟩; obtain ⟨A0, c0, rfl, _⟩ := id hO.row)
  have hlen : hs.length ≤ 1000 := Nat.le_trans hln hn
  have hrow : RowIn (fun t => w.heap.size ≤ t ∧ t < w6.heap.size) 5 encH w6 A0 hs := by
    by_cases he : hs = []
    · exact .inl he
    · obtain ⟨b, c, e, h1, _⟩ := hO.fresh.resolve_left he
      obtain ⟨A9, c9, e9, h9⟩ := hO.row
      rcases h9 with h9 | ⟨b9, o9, e8, h8, h7⟩
      · exact absurd h9 he
      · simp only [Value.slice.injEq] at e e9
        rw [← e9.1, e.1] at e8
        simp only [Option.some.injEq, Addr.mk.injEq, and_true] at e8
        rw [e.1]
        obtain ⟨e7, e6⟩ := e8
        subst e7 e6
        exact .inr ⟨b, 0, rfl, ⟨h1, h8⟩, h8, h7⟩
  have HI0 : Hid (ROwn hdT 5 encH w6.heap.size w6 (.slice none 0 0) (goneH m (hs.take 0)) ∧ MapI w6 mb n (gH (stH m hs 0)) ∧ But w w6 (fun k => k = mb) ∧ RowIn (fun t => w.heap.size ≤ t ∧ t < w6.heap.size) 5 encH w6 A0 hs ∧ w6.heap.size ≤ w6.heap.size) := Lib.hid ⟨by
    have e : goneH m (hs.take 0) = [] := by unfold goneH; simp
    rw [e]; exact ROwn.nil (Nat.le_refl _), by rw [stH_zero]; exact HS.out.map.more hb6, But.of_below hb6, hrow, Nat.le_refl _⟩
  have HB6 := Lib.hid hb6
  have HLT6 : Hid (mb < w6.heap.size) := Lib.hid (Nat.lt_of_lt_of_le HLT.out hb6.size)
  have HSZ6 := Lib.hid hb6.size
  clear hO hb6 hrow hln
  go_loopw [5, 11] (fun v5 vi wr => ∃ (v : Value) (k : Nat), v = v5 ∧ k ≤ hs.length ∧ vi = .int .i64 k ∧ Hid (ROwn hdT 5 encH w6.heap.size wr v (goneH m (hs.take k)) ∧ MapI wr mb n (gH (stH m hs k)) ∧ But w wr (fun k => k = mb) ∧ RowIn (fun t => w.heap.size ≤ t ∧ t < w6.heap.size) 5 encH wr A0 hs ∧ w6.heap.size ≤ wr.heap.size)) (fun _ vi _ => hs.length - (intOf vi).toNat)
  case atStart => exact ⟨_, 0, rfl, Nat.zero_le _, rfl, HI0⟩
  case round =>
    obtain ⟨v, k, rfl, hk, rfl, HI⟩ := hrel
    clear HI0
    obtain ⟨hO, hMp, hbt, hrw, hsz⟩ := HI.out
    have hSt : HldAt wr B mb n (stH m hs k) := HS.out.to hbt hMp (HSR.out.sub (stH_sub m hs k)) (fun y hy => (stH_sub m hs k).subset hy)
    by_cases hlt : k < hs.length
    · obtain ⟨x, hx⟩ : ∃ x, hs[k]? = some x := ⟨_, List.getElem?_eq_getElem hlt⟩
      obtain ⟨b, o, rfl, hlb, hbl, hc⟩ := (id hrw).resolve_left (by intro e; rw [e] at hx; cases hx)
      have x0 := hc k x 0 _ hx rfl
      have x1 := hc k x 1 _ hx rfl
      have x2 := hc k x 2 _ hx rfl
      have x3 := hc k x 3 _ hx rfl
      have x4 := hc k x 4 _ hx rfl
      rw [Nat.add_zero] at x0
      have i1 : (0 : Int) ≤ (k : Int) := by omega
      have i2 : (k : Int) < (hs.length : Int) := by omega
      have wr1 : IntKind.i64.wrap ((k : Int) + 1) = (k : Int) + 1 := IntWalk.i64_in _ (by omega)
      have hbA := bel_alloc wr (.cells #[.int .i64 x.id, .slice x.A x.l.length x.c, .string x.cls, .int .i64 x.cnt, .int .i64 x.til] hdT)
      have hgs := gone_succ (m := m) hx
      by_cases he : x.til ≤ m
      · have heb : endB m x = true := decide_eq_true he
        rw [heb, if_pos rfl] at hgs
        have hdr := stH_drop HSR.out hx heb
        have hbD := hbA.drew
        have hS8 := hSt.more hbD
        have hxid := (hSt.more hbA)
        have hok : -9223372036854775808 ≤ x.id ∧ x.id ≤ 9223372036854775807 := by
          have := (HS.out.ok x (List.mem_of_getElem? hx)).1
          exact ⟨this.i0, this.i1⟩
        obtain ⟨w9, hrun, hS9, hb9⟩ := hS8.del hok 0
        rw [← hdr] at hS9
        have c0' := hSt.box
        have c1' := (hSt.more hbA).box
        have hmb : mb < wr.heap.size := hSt.map.lt
        have hcA := hd_cells wr x
        have y0 : w9.cell? ⟨wr.heap.size, 0, none⟩ = _ := but_cell hb9 (hcA 0 _ rfl) (by intro e; have h8 : wr.heap.size = mb := e; omega)
        have y1 : w9.cell? ⟨wr.heap.size, 1, none⟩ = _ := but_cell hb9 (hcA 1 _ rfl) (by intro e; have h8 : wr.heap.size = mb := e; omega)
        have y2 : w9.cell? ⟨wr.heap.size, 2, none⟩ = _ := but_cell hb9 (hcA 2 _ rfl) (by intro e; have h8 : wr.heap.size = mb := e; omega)
        have y3 : w9.cell? ⟨wr.heap.size, 3, none⟩ = _ := but_cell hb9 (hcA 3 _ rfl) (by intro e; have h8 : wr.heap.size = mb := e; omega)
        have y4 : w9.cell? ⟨wr.heap.size, 4, none⟩ = _ := but_cell hb9 (hcA 4 _ rfl) (by intro e; have h8 : wr.heap.size = mb := e; omega)
        have hlt6 := HLT6.out
        have hO9 : ROwn hdT 5 encH w6.heap.size w9 v (goneH m (hs.take k)) := (hO.more hbD).grown (row := some mb) ⟨hb9.os, hb9.tape, hb9.output, hb9.size, fun j hj hn => hb9.block j hj (fun e => hn (by rw [e]))⟩ (.inl (fun e => by have := (hO.low e.symm).1; omega))
        have HO9 := Lib.hid hO9
        have HGL : Hid ((goneH m (hs.take k)).length ≤ 100000000) := Lib.hid (by unfold goneH; have := List.length_filter_le (endB m) (hs.take k); rw [List.length_take] at this; omega)
        have HN9 : Hid (MapI w9 mb n (gH (stH m hs (k + 1))) ∧ But w w9 (fun k => k = mb) ∧ RowIn (fun t => w.heap.size ≤ t ∧ t < w6.heap.size) 5 encH w9 (some ⟨b, o, none⟩) hs ∧ w6.heap.size ≤ w9.heap.size) := Lib.hid ⟨hS9.map, (hbt.trans (But.of_below hbD) (fun _ _ h => h)).trans hb9 (fun _ _ h => h), (hrw.more hbD).but hb9 (fun t e ht => by have := HLT.out; omega), Nat.le_trans hsz (Nat.le_trans hbD.size hb9.size)⟩
        have HGS := Lib.hid hgs
        clear hO9 hS9 hb9 hS8 hbD hxid hdr hgs hcA hO hSt hbt hrw HI hc hx heb hbl hlb hMp
        go_upto_region 6 with fail
        go_region
        clear hrun c0' c1' x0 x1 x2 x3 x4
        have hO9 := HO9.out
        go_wp2_with (at_builtin; refine wpList_rapp rowH rfl _ _ rfl hO9 rfl (bel_alloc _ _) _ x _ rfl (cs := #[.int .i64 x.id, .slice x.A x.l.length x.c, .string x.cls, .int .i64 x.cnt, .int .i64 x.til]) rfl (heap_alloc_new _ _) HGL.out ?_; intro v1 w10 hO1 hC1; refine Hid.out ?_)
        have hb9t := hC1.but
        have hnot : ∀ t, (fun k => v.ownBlock = some k) t → w6.heap.size ≤ t := fun t ht => (hO9.low ht).1
        have HE : Hid (ROwn hdT 5 encH w6.heap.size w10 v1 (goneH m (hs.take (k + 1))) ∧ MapI w10 mb n (gH (stH m hs (k + 1))) ∧ But w w10 (fun k => k = mb) ∧ RowIn (fun t => w.heap.size ≤ t ∧ t < w6.heap.size) 5 encH w10 (some ⟨b, o, none⟩) hs ∧ w6.heap.size ≤ w10.heap.size) := Lib.hid ⟨by rw [HGS.out]; exact hO1, HN9.out.1.same (hb9t.block mb HN9.out.1.lt (fun e => by have := hnot mb e; have := HLT6.out; omega)), HN9.out.2.1.trans hb9t (fun t ht e => by have := hnot t e; have := HSZ6.out; omega), HN9.out.2.2.1.but hb9t (fun t e ht => by have := hnot t e; omega), Nat.le_trans HN9.out.2.2.2 hb9t.size⟩
        clear hO1 hC1 hO9 hb9t hnot
        refine Lib.hid ?_
        go_wp2
        go_roundw
        case rel => exact ⟨_, k + 1, rfl, by omega, by go_num, HE⟩
        case measure => simp [intOf]; omega
      · have heb : endB m x = false := decide_eq_false he
        rw [heb] at hgs
        simp only [Bool.false_eq_true, if_false, List.append_nil] at hgs
        have hkp := stH_keep hx heb
        have HE : Hid (ROwn hdT 5 encH w6.heap.size (wr.alloc (.cells #[.int .i64 x.id, .slice x.A x.l.length x.c, .string x.cls, .int .i64 x.cnt, .int .i64 x.til] hdT)) v (goneH m (hs.take (k + 1))) ∧ MapI (wr.alloc (.cells #[.int .i64 x.id, .slice x.A x.l.length x.c, .string x.cls, .int .i64 x.cnt, .int .i64 x.til] hdT)) mb n (gH (stH m hs (k + 1))) ∧ But w (wr.alloc (.cells #[.int .i64 x.id, .slice x.A x.l.length x.c, .string x.cls, .int .i64 x.cnt, .int .i64 x.til] hdT)) (fun k => k = mb) ∧ RowIn (fun t => w.heap.size ≤ t ∧ t < w6.heap.size) 5 encH (wr.alloc (.cells #[.int .i64 x.id, .slice x.A x.l.length x.c, .string x.cls, .int .i64 x.cnt, .int .i64 x.til] hdT)) (some ⟨b, o, none⟩) hs ∧ w6.heap.size ≤ (wr.alloc (.cells #[.int .i64 x.id, .slice x.A x.l.length x.c, .string x.cls, .int .i64 x.cnt, .int .i64 x.til] hdT)).heap.size) := Lib.hid ⟨by rw [hgs]; exact hO.more hbA, by rw [hkp]; exact hMp.more hbA, hbt.trans (But.of_below hbA) (fun _ _ h => h), hrw.more hbA, Nat.le_trans hsz hbA.size⟩
        clear hgs hkp hO hMp hbt hrw HI hSt hc hx heb hbl hlb
        go_wp2
        go_roundw
        case rel => exact ⟨_, k + 1, rfl, by omega, by go_num, HE⟩
        case measure => simp [intOf]; omega
    · obtain rfl : k = hs.length := by omega
      have i2 : ¬ (hs.length : Int) < (hs.length : Int) := by omega
      rw [stH_end] at hSt
      rw [List.take_length] at hO
      obtain ⟨A7, c7, rfl, h7⟩ := hO.rowL rowH.len
      have h8 : RowIn (fun t => w.heap.size ≤ t) 5 encH wr A7 (goneH m hs) := by
        rcases h7 with h7 | ⟨b, o, rfl, h9, h10⟩
        · exact .inl h7
        · exact .inr ⟨b, o, rfl, Nat.le_trans HSZ6.out (hO.low rfl).1, h9, h10⟩
      have HZ : Hid ((HdL wr (.slice A7 (goneH m hs).length c7) (goneH m hs) ∧ RowIn (fun t => w.heap.size ≤ t) 5 encH wr A7 (goneH m hs)) ∧ HldAt wr B mb n (restH m hs) ∧ But w wr (fun k => k = mb)) := Lib.hid ⟨⟨hO.rowL rowH.len, h8⟩, hSt, hbt⟩
      clear hO hSt hbt hMp hrw HI h7 h8
      go_wp2
      go_ret
      exact ⟨⟨A7, c7, rfl, HZ.out.1.1, HZ.out.1.2⟩, HZ.out.2.1, HZ.out.2.2⟩
end Go.Proofs.Ythillkbcbklhaaa
