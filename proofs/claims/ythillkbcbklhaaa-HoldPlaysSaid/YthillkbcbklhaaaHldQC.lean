/- The specification's Drop. -/
import Derived.Test.YthillkbcbklhaaaHldQB
namespace Go.Proofs.Ythillkbcbklhaaa
open Go.RowKit Go.Shelf Go.Maps Go.MapKept
set_option linter.unusedSimpArgs false
set_option linter.unusedVariables false

abbrev rhT : TypeId := 31
theorem drop_split : ∀ {hs : List Hd} {k : Nat} {x : Hd}, (hs.map Hd.id).Nodup → hs[k]? = some x → dropH hs x.id = hs.take k ++ hs.drop (k + 1)
  | [], k, x, _, h => by simp at h
  | y :: r, 0, x, hn, h => by
    simp at h
    subst h
    rw [List.map_cons, List.nodup_cons] at hn
    have hr : dropH r y.id = r := by
      unfold dropH
      rw [List.filter_eq_self]
      intro a ha
      have : a.id ≠ y.id := fun e => hn.1 (List.mem_map.2 ⟨a, ha, e⟩)
      simpa using this
    unfold dropH at hr ⊢
    rw [List.filter_cons_of_neg (by simp)]
    simpa using hr
  | y :: r, k + 1, x, hn, h => by
    rw [List.map_cons, List.nodup_cons] at hn
    have h' : r[k]? = some x := by simpa using h
    have ih := drop_split hn.2 h'
    have hy : y.id ≠ x.id := fun e => hn.1 (List.mem_map.2 ⟨x, List.mem_of_getElem? h', e.symm⟩)
    unfold dropH at ih ⊢
    rw [List.filter_cons_of_pos (by simpa using hy), ih]
    simp
theorem at_find {hs : List Hd} (h0 : SrtH hs) {i : Int} {x : Hd} (h : findH hs i = some x) : ∃ k : Nat, hs[k]? = some x ∧ atP hs i = (k : Int) := by
  obtain ⟨hx, he⟩ := find_some h
  obtain ⟨k, hk⟩ := List.getElem?_of_mem hx
  refine ⟨k, hk, at_hit hk he (fun j y hj hy e => ?_)⟩
  have hn := h0.ids
  rw [List.nodup_iff_pairwise_ne, List.pairwise_iff_getElem] at hn
  obtain ⟨h1, e1⟩ := List.getElem?_eq_some_iff.1 hk
  obtain ⟨h2, e2⟩ := List.getElem?_eq_some_iff.1 hy
  refine hn j k (by simpa using h2) (by simpa using h1) hj ?_
  rw [List.getElem_map, List.getElem_map, e1, e2, e, he]
theorem at_none {hs : List Hd} {i : Int} (h : findH hs i = none) : atP hs i = -1 := at_no (fun j y hy => find_no h y (List.mem_of_getElem? hy))
theorem own_rowIn {B0 : Nat} {w : World} {v : Value} {l : List Hd} (h : ROwn rhT 5 encH B0 w v l) {A : Option Addr} {n c : Nat} (hv : v = .slice A n c) : n = l.length ∧ RowIn (fun k => B0 ≤ k) 5 encH w A l := by
  obtain ⟨A', c', e, hc⟩ := h.rowL rowRH.len
  subst hv
  simp only [Value.slice.injEq] at e
  obtain ⟨rfl, rfl, rfl⟩ := e
  refine ⟨rfl, ?_⟩
  rcases hc with hc | ⟨b, o, rfl, hlt, hc⟩
  · exact .inl hc
  · exact .inr ⟨b, o, rfl, (h.low rfl).1, hlt, hc⟩
theorem own_form {B0 : Nat} {w : World} {v : Value} {l : List Hd} (h : ROwn rhT 5 encH B0 w v l) : ∃ A c, v = .slice A l.length c ∧ l.length ≤ c := by
  rcases h.own.2 with ⟨rfl, h0⟩ | ⟨g, cap, cur, rfl, _, _, hc, _, _, _⟩
  · exact ⟨none, 0, by rw [h0], by omega⟩
  · exact ⟨_, cap, rfl, hc⟩
theorem own_addr {B0 : Nat} {w : World} {A : Option Addr} {n c : Nat} {l : List Hd} (h : ROwn rhT 5 encH B0 w (.slice A n c) l) : A = none ∨ ∃ g o, A = some ⟨g, o, none⟩ := by
  rcases h.own.2 with ⟨e, _⟩ | ⟨g, cap, cur, e, _⟩
  · simp only [Value.slice.injEq] at e
    exact .inl e.1
  · simp only [Value.slice.injEq] at e
    exact .inr ⟨g, 0, e.1⟩
/-- the specification's set, wherever its list lies -/
def RefS (w : World) (B : Nat) (hs : List Hd) : Prop := ∃ A c, RefAt w B A c hs
theorem RefS.more {w w' : World} {B : Nat} {hs : List Hd} (h : RefS w B hs) (hb : Below w.heap.size w w') : RefS w' B hs := by
  obtain ⟨A, c, h⟩ := h
  exact ⟨A, c, h.more hb⟩
theorem But.both {w w1 w2 : World} {X Y Z : Nat → Prop} (h : But w w1 X) (h' : But w1 w2 Y) (hx : ∀ k, X k → Z k) (hy : ∀ k, Y k → Z k) : But w w2 Z := ⟨h'.os.trans h.os, h'.tape.trans h.tape, h'.output.trans h.output, Nat.le_trans h.size h'.size, fun k hk hn => (h'.block k (Nat.lt_of_lt_of_le hk h.size) (fun e => hn (hy k e))).trans (h.block k hk (fun e => hn (hx k e)))⟩
theorem RowIn.lowR {R : Nat → Prop} {α : Type} {sz : Nat} {enc : α → List Value} {w : World} {A : Option Addr} {l : List α} (h : RowIn R sz enc w A l) : RowIn (fun k => R k ∧ k < w.heap.size) sz enc w A l := by
  rcases h with h | ⟨b, o, e, h0, h1, h2⟩
  · exact .inl h
  · exact .inr ⟨b, o, e, ⟨h0, h1⟩, h1, h2⟩
/-- the set with another list -/
theorem RefAt.to {w w2 w3 : World} {B B0 : Nat} {A : Option Addr} {c : Nat} {hs hs' : List Hd} (h : RefAt w B A c hs) {A' : Option Addr} {c' : Nat} (hO : ROwn rhT 5 encH B0 w2 (.slice A' hs'.length c') hs') (hB0 : w.heap.size ≤ B0) (hb : Below w.heap.size w w2) (h3 : But w2 w3 (fun k => k = B ∨ (w.heap.size ≤ k ∧ k < B0))) (hblk : w3.heap[B]? = some (.cells #[.slice A' hs'.length c'] 62 (0, 0))) (hsr : SrtH hs') (hok : ∀ y ∈ hs', OkH y ∧ RowIn (fun k => k ≠ B) 4 encD w y.A y.l ∧ rgtH y = true) : RefS w3 B hs' ∧ But w w3 (fun k => k = B) := by
  have hlt := h.lt
  have hr := (own_rowIn hO rfl).2
  have hc : hs'.length ≤ c' := by
    obtain ⟨A2, c2, e, hc⟩ := own_form hO
    simp only [Value.slice.injEq] at e
    omega
  refine ⟨⟨A', c', ⟨hblk, hc, own_addr hO, (hr.but h3 (fun k e hk => by omega)).imp (fun k hk e => by omega), hsr, fun y hy => ⟨(hok y hy).1, ?_, (hok y hy).2.2⟩⟩⟩, (But.of_below hb).trans h3 (fun k hk e => by omega)⟩
  exact (((hok y hy).2.1.lowR.more hb).but h3 (fun k e hk => by omega)).imp (fun k hk => hk.1)
theorem rowL_take {α : Type} {sz : Nat} {enc : α → List Value} {w : World} {A : Option Addr} {c c2 k : Nat} {l : List α} (hk : k ≤ l.length) (h : RowL sz enc w (.slice A l.length c) l) : RowL sz enc w (.slice A k c2) (l.take k) := by
  obtain ⟨A', c', e, hc⟩ := h
  cases e
  refine ⟨A, c2, by rw [List.length_take, Nat.min_eq_left hk], ?_⟩
  rcases hc with hc | ⟨b, o, e, hl, hc⟩
  · exact .inl (by rw [hc]; simp)
  · refine .inr ⟨b, o, e, hl, fun i x j u hi hj => hc i x j u ?_ hj⟩
    have h1 := (List.getElem?_eq_some_iff.1 hi).1
    rw [List.length_take] at h1
    rw [List.getElem?_take_of_lt (by omega)] at hi
    exact hi
theorem rowL_drop {α : Type} {sz : Nat} {enc : α → List Value} {w : World} {b o : Nat} {c c2 k : Nat} {l : List α} (h : RowL sz enc w (.slice (some ⟨b, o, none⟩) l.length c) l) : RowL sz enc w (.slice (some ⟨b, o + k * sz, none⟩) (l.length - k) c2) (l.drop k) := by
  obtain ⟨A', c', e, hc⟩ := h
  cases e
  refine ⟨_, c2, by rw [List.length_drop], ?_⟩
  rcases hc with hc | ⟨b', o', e, hl, hc⟩
  · exact .inl (by rw [hc]; simp)
  · cases e
    refine .inr ⟨b, o + k * sz, rfl, hl, fun i x j u hi hj => ?_⟩
    rw [List.getElem?_drop] at hi
    have := hc (k + i) x j u hi hj
    rw [show o + k * sz + i * sz + j = o + (k + i) * sz + j by rw [Nat.add_mul]; omega]
    exact this
set_option maxRecDepth 100000 in
set_option maxHeartbeats 8000000 in
theorem rdrop_any (B : Nat) (A : Option Addr) (c : Nat) (hs : List Hd) (i : Int) (w : World) (hl : hs.length ≤ 1000) (h : RefAt w B A c hs) :
    Calls Try.prog 14 #[.pointer (some ⟨B, 0, none⟩), .int .i64 i] w fun e w' => e = .returned (.tuple #[((findH hs i).map aggH).getD zH, .int .i64 (dropE hs i)]) ∧ RefS w' B (dropH hs i) ∧ But w w' (fun k => k = B) := by
  have hb := bel_alloc w (.cells #[.int .i64 0, .slice none 0 0, .string noB, .int .i64 0, .int .i64 0] rhT)
  have hS5 := h.more hb
  have K := Lib.hid (at_any B A c hs i (w.alloc (.cells #[.int .i64 0, .slice none 0 0, .string noB, .int .i64 0, .int .i64 0] rhT)) hl hS5)
  have HB := Lib.hid hb
  have HS := Lib.hid h
  unfold dropE
  clear hb
  cases hf : findH hs i with
  | none =>
    rw [at_none hf] at K
    have HD : Hid (dropH hs i = hs) := Lib.hid (drop_none hf)
    rw [HD.out]
    show Calls _ _ _ _ fun e w' => e = .returned (.tuple #[zH, .int .i64 7]) ∧ RefS w' B hs ∧ But w w' (fun k => k = B)
    clear hf hS5 h
    go_enter Try.func14, Try.ntmps14
    go_wp2_with (go_at_call 30; (with_reducible refine K.out.mono ?_); rintro e w6 ⟨rfl, rfl⟩)
    refine bodyPost_ret (v := .tuple #[zH, .int .i64 7]) ?_ rfl ⟨rfl, ⟨A, c, HS.out.more HB.out⟩, But.of_below HB.out⟩
    simp [results, Try.results14, go_sem]
  | some x =>
    obtain ⟨k, hx, hat⟩ := at_find h.srt hf
    rw [hat] at K
    have hid := (find_some hf).2
    obtain ⟨b, o, hA, _, hc⟩ := row_get (hS5.rows.rowL c) hx
    subst hA
    have hk := (List.getElem?_eq_some_iff.1 hx).1
    have HSP : Hid (dropH hs i = hs.take k ++ hs.drop (k + 1)) := Lib.hid (by rw [← hid]; exact drop_split h.srt.ids hx)
    show Calls _ _ _ _ fun e w' => e = .returned (.tuple #[aggH x, .int .i64 0]) ∧ RefS w' B (dropH hs i) ∧ But w w' (fun k => k = B)
    have x0 := hc 0 _ rfl
    have x1 := hc 1 _ rfl
    have x2 := hc 2 _ rfl
    have x3 := hc 3 _ rfl
    have x4 := hc 4 _ rfl
    rw [Nat.add_zero] at x0
    have c0 := hS5.box
    have hcap := h.cap
    have i1 : (0 : Int) ≤ (k : Int) := by omega
    have i2 : (k : Int) < (hs.length : Int) := by omega
    have i3 : ¬ (k : Int) < 0 := by omega
    have i4 : (k : Int) ≤ (c : Int) := by omega
    have w1 : IntKind.i64.wrap ((k : Int) + 1) = (k : Int) + 1 := IntWalk.i64_in _ (by omega)
    have i5 : (0 : Int) ≤ (k : Int) + 1 := by omega
    have i6 : (k : Int) + 1 ≤ (hs.length : Int) := by omega
    have i7 : ((k : Int) + 1).toNat = k + 1 := by omega
    have HBX := Lib.hid (bel_alloc (w.alloc (.cells #[.int .i64 0, .slice none 0 0, .string noB, .int .i64 0, .int .i64 0] rhT)) (.cells #[.int .i64 x.id, .slice x.A x.l.length x.c, .string x.cls, .int .i64 x.cnt, .int .i64 x.til] rhT))
    have HW7 := Lib.hid (HB.out.trans (HBX.out.mono HB.out.size))
    have c1 := bel_cell HBX.out c0
    have HX := Lib.hid hx
    have HK := Lib.hid hk
    obtain ⟨w7, h7⟩ : ∃ w7, w7 = (w.alloc (.cells #[.int .i64 0, .slice none 0 0, .string noB, .int .i64 0, .int .i64 0] rhT)).alloc (.cells #[.int .i64 x.id, .slice x.A x.l.length x.c, .string x.cls, .int .i64 x.cnt, .int .i64 x.til] rhT) := ⟨_, rfl⟩
    have hS7 := h.more HW7.out
    rw [← h7] at hS7
    have HS7 := Lib.hid hS7
    have HT : Hid (∀ c2, RowL 5 encH w7 (.slice (some ⟨b, o, none⟩) k c2) (hs.take k)) := Lib.hid (fun c2 => rowL_take (by omega) (hS7.rows.rowL c))
    have HM1 : Hid (([] : List Hd).length + (hs.take k).length ≤ 100000000) := Lib.hid (by rw [List.length_take, List.length_nil]; omega)
    have HM2 : Hid ((([] : List Hd) ++ hs.take k).length + (hs.drop (k + 1)).length ≤ 100000000) := Lib.hid (by rw [List.nil_append, List.length_take, List.length_drop]; omega)
    have HO0 : Hid (ROwn rhT 5 encH w7.heap.size w7 (.slice none 0 0) []) := Lib.hid (ROwn.nil (Nat.le_refl _))
    have HSZ : Hid (w7.heap.size = w.heap.size + 2) := Lib.hid (by rw [h7]; simp)
    have HLT := Lib.hid h.lt
    have HBZ : Hid (w7.heap[w.heap.size]? = some (.cells #[.int .i64 0, .slice none 0 0, .string noB, .int .i64 0, .int .i64 0] rhT (0, 0))) := Lib.hid (by
      rw [h7]
      exact (HBX.out.block _ (by simp)).trans (heap_alloc_new w _))
    have HBX7 : Hid (w7.heap[w.heap.size + 1]? = some (.cells #[.int .i64 x.id, .slice x.A x.l.length x.c, .string x.cls, .int .i64 x.cnt, .int .i64 x.til] rhT (0, 0))) := Lib.hid (by
      have e : (w.alloc (.cells #[.int .i64 0, .slice none 0 0, .string noB, .int .i64 0, .int .i64 0] rhT)).heap.size = w.heap.size + 1 := by simp
      rw [h7, ← e]
      exact heap_alloc_new _ _)
    have HSR := Lib.hid (h.srt.drop i)
    have HC := Lib.hid hcap
    have HKL := Lib.hid i6
    clear hf hS5 h hx hat hid hc hS7
    have HD : Hid (∀ W, Below w7.heap.size w7 W → RowL 5 encH W (.slice (some ⟨b, o + (k + 1) * 5, none⟩) (hs.length - (k + 1)) (c - (k + 1))) (hs.drop (k + 1))) := Lib.hid (fun W hW => rowL_drop ((HS7.out.rows.rowL c).more hW))
    have HD0 : Hid (∀ W A' c', c = k + 1 → RowL 5 encH W (.slice A' (hs.length - (k + 1)) c') (hs.drop (k + 1))) := Lib.hid (fun W A' c' e => ⟨A', c', by rw [List.length_drop], .inl (List.drop_eq_nil_of_le (by have := HC.out; omega))⟩)
    have HE7 := Lib.hid h7
    by_cases hce : c = k + 1
    · have c5 := c0
      go_enter Try.func14, Try.ntmps14
      go_upto_region 6 with (go_at_call 30; (with_reducible refine K.out.mono ?_); rintro e w6 ⟨rfl, rfl⟩)
      rw [← HE7.out] at c1 ⊢
      clear c0 c5 x0 x1 x2 x3 x4 h7
      go_upto_region 7 with (at_builtin; refine wpList_rappl rowRH rfl _ _ rfl HO0.out rfl (hs.take k) _ rfl (HT.out _) HM1.out ?_; intro v1 w8 hO1 hC1)
      have HB8 := Lib.hid (hC1.below HO0.out)
      have HO1 := Lib.hid hO1
      have c8 := bel_cell HB8.out c1
      clear hO1 hC1 c1
      go_upto_region 8 with (at_builtin; refine wpList_rappl rowRH rfl _ _ rfl HO1.out rfl (hs.drop (k + 1)) _ rfl (HD0.out _ _ _ hce) HM2.out ?_; intro v2 w9 hO2 hC2; have HB9 := Lib.hid (HB8.out.trans (hC2.below HO1.out)); rw [List.nil_append, ← HSP.out] at hO2; obtain ⟨A2, n2, rfl, hn2⟩ := own_form hO2; have HO2 := Lib.hid hO2; have c9 := (HS7.out.more HB9.out).box; have z9 := (HS7.out.more HB9.out).froz; clear hO2 hC2 hn2)
      obtain ⟨w10, h10⟩ : ∃ w10, w10 = w9.setCell ⟨B, 0, none⟩ (.slice A2 (dropH hs i).length n2) := ⟨_, rfl⟩
      rw [← h10]
      have hb10 : But w7 w10 (fun k => k = B) := by rw [h10]; exact (But.of_below HB9.out).trans (But.setCell w9 B 0 _) (fun _ _ h => h)
      have HBK : Hid (w10.heap[B]? = some (.cells #[.slice A2 (dropH hs i).length n2] 62 (0, 0)) ∧ But w9 w10 (fun k => k = B)) := Lib.hid (by rw [h10]; exact ⟨heap_setCell_same w9 B 0 _ _ _ ((HS7.out.more HB9.out).blk), But.setCell w9 B 0 _⟩)
      have hz := (hb10.block w.heap.size (by have := HSZ.out; omega) (by have := HLT.out; omega)).trans HBZ.out
      have hy := (hb10.block (w.heap.size + 1) (by have := HSZ.out; omega) (by have := HLT.out; omega)).trans HBX7.out
      have d0 := cell_of_row _ _ 0 _ _ (0, 0) hy
      have d1 := cell_of_row _ _ 1 _ _ (0, 0) hy
      have d2 := cell_of_row _ _ 2 _ _ (0, 0) hy
      have d3 := cell_of_row _ _ 3 _ _ (0, 0) hy
      have d4 := cell_of_row _ _ 4 _ _ (0, 0) hy
      have y0 := cell_of_row _ _ 0 _ _ (0, 0) hz
      have y1 := cell_of_row _ _ 1 _ _ (0, 0) hz
      have y2 := cell_of_row _ _ 2 _ _ (0, 0) hz
      have y3 := cell_of_row _ _ 3 _ _ (0, 0) hz
      have y4 := cell_of_row _ _ 4 _ _ (0, 0) hz
      have g0 := frozen_of_row _ _ 0 _ _ hz
      have g1 := frozen_of_row _ _ 1 _ _ hz
      have g2 := frozen_of_row _ _ 2 _ _ hz
      have g3 := frozen_of_row _ _ 3 _ _ hz
      have g4 := frozen_of_row _ _ 4 _ _ hz
      have HZ := Lib.hid hz
      clear hz hy hb10 h10 c8 c9 z9
      go_wp2
      have hh := S5.heap HZ.out (.int .i64 x.id) (.slice x.A x.l.length x.c) (.string x.cls) (.int .i64 x.cnt) (.int .i64 x.til)
      have hbut := S5.but w10 w.heap.size (.int .i64 x.id) (.slice x.A x.l.length x.c) (.string x.cls) (.int .i64 x.cnt) (.int .i64 x.til)
      rw [show ((((w10.setCell ⟨w.heap.size, 0, none⟩ (.int .i64 x.id)).setCell ⟨w.heap.size, 1, none⟩ (.slice x.A x.l.length x.c)).setCell ⟨w.heap.size, 2, none⟩ (.string x.cls)).setCell ⟨w.heap.size, 3, none⟩ (.int .i64 x.cnt)).setCell ⟨w.heap.size, 4, none⟩ (.int .i64 x.til) = S5 w10 w.heap.size (.int .i64 x.id) (.slice x.A x.l.length x.c) (.string x.cls) (.int .i64 x.cnt) (.int .i64 x.til) from rfl]
      generalize S5 w10 w.heap.size (.int .i64 x.id) (.slice x.A x.l.length x.c) (.string x.cls) (.int .i64 x.cnt) (.int .i64 x.til) = w11 at *
      have d0 := cell_of_row _ _ 0 _ _ (0, 0) hh
      have d1 := cell_of_row _ _ 1 _ _ (0, 0) hh
      have d2 := cell_of_row _ _ 2 _ _ (0, 0) hh
      have d3 := cell_of_row _ _ 3 _ _ (0, 0) hh
      have d4 := cell_of_row _ _ 4 _ _ (0, 0) hh
      have hF := HS.out.to (w2 := w9) (w3 := w11) HO2.out (by have := HSZ.out; omega) (by
          have h7b := HW7.out
          rw [← HE7.out] at h7b
          exact h7b.trans (HB9.out.mono h7b.size)) (But.both HBK.out.2 hbut (fun k e => .inl e) (fun k e => .inr (by have := HSZ.out; omega))) ((hbut.block B (by have := (Array.getElem?_eq_some_iff.1 HBK.out.1).1; omega) (by have := HLT.out; omega)).trans HBK.out.1) HSR.out (fun y hy => HS.out.ok y (mem_drop.1 hy).1)
      refine bodyPost_ret (v := .tuple #[aggH x, .int .i64 0]) ?_ rfl ⟨rfl, hF.1, hF.2⟩
      simp [results, Try.results14, go_sem, d0, d1, d2, d3, d4]
    · have c5 := c0
      go_enter Try.func14, Try.ntmps14
      go_upto_region 6 with (go_at_call 30; (with_reducible refine K.out.mono ?_); rintro e w6 ⟨rfl, rfl⟩)
      rw [← HE7.out] at c1 ⊢
      clear c0 c5 x0 x1 x2 x3 x4 h7
      go_upto_region 7 with (at_builtin; refine wpList_rappl rowRH rfl _ _ rfl HO0.out rfl (hs.take k) _ rfl (HT.out _) HM1.out ?_; intro v1 w8 hO1 hC1)
      have HB8 := Lib.hid (hC1.below HO0.out)
      have HO1 := Lib.hid hO1
      have c8 := bel_cell HB8.out c1
      clear hO1 hC1 c1
      go_upto_region 8 with (at_builtin; refine wpList_rappl rowRH rfl _ _ rfl HO1.out rfl (hs.drop (k + 1)) _ rfl (HD.out _ HB8.out) HM2.out ?_; intro v2 w9 hO2 hC2; have HB9 := Lib.hid (HB8.out.trans (hC2.below HO1.out)); rw [List.nil_append, ← HSP.out] at hO2; obtain ⟨A2, n2, rfl, hn2⟩ := own_form hO2; have HO2 := Lib.hid hO2; have c9 := (HS7.out.more HB9.out).box; have z9 := (HS7.out.more HB9.out).froz; clear hO2 hC2 hn2)
      obtain ⟨w10, h10⟩ : ∃ w10, w10 = w9.setCell ⟨B, 0, none⟩ (.slice A2 (dropH hs i).length n2) := ⟨_, rfl⟩
      rw [← h10]
      have hb10 : But w7 w10 (fun k => k = B) := by rw [h10]; exact (But.of_below HB9.out).trans (But.setCell w9 B 0 _) (fun _ _ h => h)
      have HBK : Hid (w10.heap[B]? = some (.cells #[.slice A2 (dropH hs i).length n2] 62 (0, 0)) ∧ But w9 w10 (fun k => k = B)) := Lib.hid (by rw [h10]; exact ⟨heap_setCell_same w9 B 0 _ _ _ ((HS7.out.more HB9.out).blk), But.setCell w9 B 0 _⟩)
      have hz := (hb10.block w.heap.size (by have := HSZ.out; omega) (by have := HLT.out; omega)).trans HBZ.out
      have hy := (hb10.block (w.heap.size + 1) (by have := HSZ.out; omega) (by have := HLT.out; omega)).trans HBX7.out
      have d0 := cell_of_row _ _ 0 _ _ (0, 0) hy
      have d1 := cell_of_row _ _ 1 _ _ (0, 0) hy
      have d2 := cell_of_row _ _ 2 _ _ (0, 0) hy
      have d3 := cell_of_row _ _ 3 _ _ (0, 0) hy
      have d4 := cell_of_row _ _ 4 _ _ (0, 0) hy
      have y0 := cell_of_row _ _ 0 _ _ (0, 0) hz
      have y1 := cell_of_row _ _ 1 _ _ (0, 0) hz
      have y2 := cell_of_row _ _ 2 _ _ (0, 0) hz
      have y3 := cell_of_row _ _ 3 _ _ (0, 0) hz
      have y4 := cell_of_row _ _ 4 _ _ (0, 0) hz
      have g0 := frozen_of_row _ _ 0 _ _ hz
      have g1 := frozen_of_row _ _ 1 _ _ hz
      have g2 := frozen_of_row _ _ 2 _ _ hz
      have g3 := frozen_of_row _ _ 3 _ _ hz
      have g4 := frozen_of_row _ _ 4 _ _ hz
      have HZ := Lib.hid hz
      clear hz hy hb10 h10 c8 c9 z9
      go_wp2
      have hh := S5.heap HZ.out (.int .i64 x.id) (.slice x.A x.l.length x.c) (.string x.cls) (.int .i64 x.cnt) (.int .i64 x.til)
      have hbut := S5.but w10 w.heap.size (.int .i64 x.id) (.slice x.A x.l.length x.c) (.string x.cls) (.int .i64 x.cnt) (.int .i64 x.til)
      rw [show ((((w10.setCell ⟨w.heap.size, 0, none⟩ (.int .i64 x.id)).setCell ⟨w.heap.size, 1, none⟩ (.slice x.A x.l.length x.c)).setCell ⟨w.heap.size, 2, none⟩ (.string x.cls)).setCell ⟨w.heap.size, 3, none⟩ (.int .i64 x.cnt)).setCell ⟨w.heap.size, 4, none⟩ (.int .i64 x.til) = S5 w10 w.heap.size (.int .i64 x.id) (.slice x.A x.l.length x.c) (.string x.cls) (.int .i64 x.cnt) (.int .i64 x.til) from rfl]
      generalize S5 w10 w.heap.size (.int .i64 x.id) (.slice x.A x.l.length x.c) (.string x.cls) (.int .i64 x.cnt) (.int .i64 x.til) = w11 at *
      have d0 := cell_of_row _ _ 0 _ _ (0, 0) hh
      have d1 := cell_of_row _ _ 1 _ _ (0, 0) hh
      have d2 := cell_of_row _ _ 2 _ _ (0, 0) hh
      have d3 := cell_of_row _ _ 3 _ _ (0, 0) hh
      have d4 := cell_of_row _ _ 4 _ _ (0, 0) hh
      have hF := HS.out.to (w2 := w9) (w3 := w11) HO2.out (by have := HSZ.out; omega) (by
          have h7b := HW7.out
          rw [← HE7.out] at h7b
          exact h7b.trans (HB9.out.mono h7b.size)) (But.both HBK.out.2 hbut (fun k e => .inl e) (fun k e => .inr (by have := HSZ.out; omega))) ((hbut.block B (by have := (Array.getElem?_eq_some_iff.1 HBK.out.1).1; omega) (by have := HLT.out; omega)).trans HBK.out.1) HSR.out (fun y hy => HS.out.ok y (mem_drop.1 hy).1)
      refine bodyPost_ret (v := .tuple #[aggH x, .int .i64 0]) ?_ rfl ⟨rfl, hF.1, hF.2⟩
      simp [results, Try.results14, go_sem, d0, d1, d2, d3, d4]
end Go.Proofs.Ythillkbcbklhaaa
