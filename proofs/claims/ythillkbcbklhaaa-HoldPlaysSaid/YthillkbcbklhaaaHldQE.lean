/- The specification's Put, whole; its Drop with where the new list lies. -/
import Derived.Test.YthillkbcbklhaaaHldQD1
import Derived.Test.YthillkbcbklhaaaHldQD2
namespace Go.Proofs.Ythillkbcbklhaaa
open Go.RowKit Go.Shelf Go.Maps Go.MapKept
set_option linter.unusedSimpArgs false
set_option linter.unusedVariables false

theorem rput_any (B : Nat) (hs : List Hd) (x : Hd) (w : World) (hl : hs.length ≤ 999) (h : RefS w B hs) (hx : OkH x) (hxr : RowIn (fun k => k ≠ B) 4 encD w x.A x.l) :
    Calls Try.prog 12 #[.pointer (some ⟨B, 0, none⟩), aggH x] w fun e w' => e = .returned (.int .i64 (putE hs x)) ∧ RefS w' B (putG hs x) ∧ But w w' (fun k => k = B) := by
  obtain ⟨A, c, h⟩ := h
  by_cases hno : rgtH x = true ∧ findH hs x.id = none
  · rcases h.form with hA | ⟨b, o, hA⟩
    · exact rput_none B A c hs hA x w hl h hx hxr hno.1 hno.2
    · exact rput_some B b o A hA c hs x w hl h hx hxr hno.1 hno.2
  · exact rput_bad B A c hs x w hl h hx hxr hno
/-- the specification's set, and its list lies in a new block -/
def RefF (n : Nat) (w : World) (B : Nat) (hs : List Hd) : Prop := ∃ A c, RefAt w B A c hs ∧ ∀ a, A = some a → n ≤ a.block
theorem RefF.s {n : Nat} {w : World} {B : Nat} {hs : List Hd} (h : RefF n w B hs) : RefS w B hs := by
  obtain ⟨A, c, h, _⟩ := h
  exact ⟨A, c, h⟩
/-- the set with another list -/
theorem RefAt.toF {w w2 w3 : World} {B B0 : Nat} {A : Option Addr} {c : Nat} {hs hs' : List Hd} (h : RefAt w B A c hs) {A' : Option Addr} {c' : Nat} (hO : ROwn rhT 5 encH B0 w2 (.slice A' hs'.length c') hs') (hB0 : w.heap.size ≤ B0) (hb : Below w.heap.size w w2) (h3 : But w2 w3 (fun k => k = B ∨ (w.heap.size ≤ k ∧ k < B0))) (hblk : w3.heap[B]? = some (.cells #[.slice A' hs'.length c'] 62 (0, 0))) (hsr : SrtH hs') (hok : ∀ y ∈ hs', OkH y ∧ RowIn (fun k => k ≠ B) 4 encD w y.A y.l ∧ rgtH y = true) : RefF w.heap.size w3 B hs' ∧ But w w3 (fun k => k = B) := by
  have hlt := h.lt
  have hr := (own_rowIn hO rfl).2
  have hc : hs'.length ≤ c' := by
    obtain ⟨A2, c2, e, hc⟩ := own_form hO
    simp only [Value.slice.injEq] at e
    omega
  refine ⟨⟨A', c', ⟨⟨hblk, hc, own_addr hO, (hr.but h3 (fun k e hk => by omega)).imp (fun k hk e => by omega), hsr, fun y hy => ⟨(hok y hy).1, ?_, (hok y hy).2.2⟩⟩, fun a e => ?_⟩⟩, (But.of_below hb).trans h3 (fun k hk e => by omega)⟩
  · exact (((hok y hy).2.1.lowR.more hb).but h3 (fun k e hk => by omega)).imp (fun k hk => hk.1)
  · subst e
    rcases hO.own.2 with ⟨e2, _⟩ | ⟨g, cap, cur, e2, hB, _⟩
    · cases e2
    · cases e2
      exact Nat.le_trans hB0 hB
set_option maxRecDepth 100000 in
set_option maxHeartbeats 8000000 in
theorem rdropF_any (B : Nat) (A : Option Addr) (c : Nat) (hs : List Hd) (i : Int) (w : World) (hl : hs.length ≤ 1000) (h : RefAt w B A c hs) {x0 : Hd} (hf0 : findH hs i = some x0) :
    Calls Try.prog 14 #[.pointer (some ⟨B, 0, none⟩), .int .i64 i] w fun e w' => e = .returned (.tuple #[((findH hs i).map aggH).getD zH, .int .i64 (dropE hs i)]) ∧ RefF w.heap.size w' B (dropH hs i) ∧ But w w' (fun k => k = B) := by
  have hb := bel_alloc w (.cells #[.int .i64 0, .slice none 0 0, .string noB, .int .i64 0, .int .i64 0] rhT)
  have hS5 := h.more hb
  have K := Lib.hid (at_any B A c hs i (w.alloc (.cells #[.int .i64 0, .slice none 0 0, .string noB, .int .i64 0, .int .i64 0] rhT)) hl hS5)
  have HB := Lib.hid hb
  have HS := Lib.hid h
  unfold dropE
  clear hb
  cases hf : findH hs i with
  | none =>
    rw [hf] at hf0
    cases hf0
  | some x =>
    obtain ⟨k, hx, hat⟩ := at_find h.srt hf
    rw [hat] at K
    have hid := (find_some hf).2
    obtain ⟨b, o, hA, _, hc⟩ := row_get (hS5.rows.rowL c) hx
    subst hA
    have hk := (List.getElem?_eq_some_iff.1 hx).1
    have HSP : Hid (dropH hs i = hs.take k ++ hs.drop (k + 1)) := Lib.hid (by rw [← hid]; exact drop_split h.srt.ids hx)
    show Calls _ _ _ _ fun e w' => e = .returned (.tuple #[aggH x, .int .i64 0]) ∧ RefF w.heap.size w' B (dropH hs i) ∧ But w w' (fun k => k = B)
    have x0 := hc 0 _ rfl
    have x1 := hc 1 _ rfl
    have x2 := hc 2 _ rfl
    have x3 := hc 3 _ rfl
    have x4 := hc 4 _ rfl
    rw [Nat.add_zero] at x0
    have c0 := hS5.box
    have hcap := h.cap
    have i1 : (0 : Int) ≤ (k : Int) := by omega
    have i2 : (k : Int) < (hs.length : Int) := by omega
    have i3 : ¬ (k : Int) < 0 := by omega
    have i4 : (k : Int) ≤ (c : Int) := by omega
    have w1 : IntKind.i64.wrap ((k : Int) + 1) = (k : Int) + 1 := IntWalk.i64_in _ (by omega)
    have i5 : (0 : Int) ≤ (k : Int) + 1 := by omega
    have i6 : (k : Int) + 1 ≤ (hs.length : Int) := by omega
    have i7 : ((k : Int) + 1).toNat = k + 1 := by omega
    have HBX := Lib.hid (bel_alloc (w.alloc (.cells #[.int .i64 0, .slice none 0 0, .string noB, .int .i64 0, .int .i64 0] rhT)) (.cells #[.int .i64 x.id, .slice x.A x.l.length x.c, .string x.cls, .int .i64 x.cnt, .int .i64 x.til] rhT))
    have HW7 := Lib.hid (HB.out.trans (HBX.out.mono HB.out.size))
    have c1 := bel_cell HBX.out c0
    have HX := Lib.hid hx
    have HK := Lib.hid hk
    obtain ⟨w7, h7⟩ : ∃ w7, w7 = (w.alloc (.cells #[.int .i64 0, .slice none 0 0, .string noB, .int .i64 0, .int .i64 0] rhT)).alloc (.cells #[.int .i64 x.id, .slice x.A x.l.length x.c, .string x.cls, .int .i64 x.cnt, .int .i64 x.til] rhT) := ⟨_, rfl⟩
    have hS7 := h.more HW7.out
    rw [← h7] at hS7
    have HS7 := Lib.hid hS7
    have HT : Hid (∀ c2, RowL 5 encH w7 (.slice (some ⟨b, o, none⟩) k c2) (hs.take k)) := Lib.hid (fun c2 => rowL_take (by omega) (hS7.rows.rowL c))
    have HM1 : Hid (([] : List Hd).length + (hs.take k).length ≤ 100000000) := Lib.hid (by rw [List.length_take, List.length_nil]; omega)
    have HM2 : Hid ((([] : List Hd) ++ hs.take k).length + (hs.drop (k + 1)).length ≤ 100000000) := Lib.hid (by rw [List.nil_append, List.length_take, List.length_drop]; omega)
    have HO0 : Hid (ROwn rhT 5 encH w7.heap.size w7 (.slice none 0 0) []) := Lib.hid (ROwn.nil (Nat.le_refl _))
    have HSZ : Hid (w7.heap.size = w.heap.size + 2) := Lib.hid (by rw [h7]; simp)
    have HLT := Lib.hid h.lt
    have HBZ : Hid (w7.heap[w.heap.size]? = some (.cells #[.int .i64 0, .slice none 0 0, .string noB, .int .i64 0, .int .i64 0] rhT (0, 0))) := Lib.hid (by
      rw [h7]
      exact (HBX.out.block _ (by simp)).trans (heap_alloc_new w _))
    have HBX7 : Hid (w7.heap[w.heap.size + 1]? = some (.cells #[.int .i64 x.id, .slice x.A x.l.length x.c, .string x.cls, .int .i64 x.cnt, .int .i64 x.til] rhT (0, 0))) := Lib.hid (by
      have e : (w.alloc (.cells #[.int .i64 0, .slice none 0 0, .string noB, .int .i64 0, .int .i64 0] rhT)).heap.size = w.heap.size + 1 := by simp
      rw [h7, ← e]
      exact heap_alloc_new _ _)
    have HSR := Lib.hid (h.srt.drop i)
    have HC := Lib.hid hcap
    have HKL := Lib.hid i6
    clear hf hS5 h hx hat hid hc hS7
    have HD : Hid (∀ W, Below w7.heap.size w7 W → RowL 5 encH W (.slice (some ⟨b, o + (k + 1) * 5, none⟩) (hs.length - (k + 1)) (c - (k + 1))) (hs.drop (k + 1))) := Lib.hid (fun W hW => rowL_drop ((HS7.out.rows.rowL c).more hW))
    have HD0 : Hid (∀ W A' c', c = k + 1 → RowL 5 encH W (.slice A' (hs.length - (k + 1)) c') (hs.drop (k + 1))) := Lib.hid (fun W A' c' e => ⟨A', c', by rw [List.length_drop], .inl (List.drop_eq_nil_of_le (by have := HC.out; omega))⟩)
    have HE7 := Lib.hid h7
    by_cases hce : c = k + 1
    · have c5 := c0
      go_enter Try.func14, Try.ntmps14
      go_upto_region 6 with (go_at_call 30; (with_reducible refine K.out.mono ?_); rintro e w6 ⟨rfl, rfl⟩)
      rw [← HE7.out] at c1 ⊢
      clear c0 c5 x0 x1 x2 x3 x4 h7
      go_upto_region 7 with (at_builtin; refine wpList_rappl rowRH rfl _ _ rfl HO0.out rfl (hs.take k) _ rfl (HT.out _) HM1.out ?_; intro v1 w8 hO1 hC1)
      have HB8 := Lib.hid (hC1.below HO0.out)
      have HO1 := Lib.hid hO1
      have c8 := bel_cell HB8.out c1
      clear hO1 hC1 c1
      go_upto_region 8 with (at_builtin; refine wpList_rappl rowRH rfl _ _ rfl HO1.out rfl (hs.drop (k + 1)) _ rfl (HD0.out _ _ _ hce) HM2.out ?_; intro v2 w9 hO2 hC2; have HB9 := Lib.hid (HB8.out.trans (hC2.below HO1.out)); rw [List.nil_append, ← HSP.out] at hO2; obtain ⟨A2, n2, rfl, hn2⟩ := own_form hO2; have HO2 := Lib.hid hO2; have c9 := (HS7.out.more HB9.out).box; have z9 := (HS7.out.more HB9.out).froz; clear hO2 hC2 hn2)
      obtain ⟨w10, h10⟩ : ∃ w10, w10 = w9.setCell ⟨B, 0, none⟩ (.slice A2 (dropH hs i).length n2) := ⟨_, rfl⟩
      rw [← h10]
      have hb10 : But w7 w10 (fun k => k = B) := by rw [h10]; exact (But.of_below HB9.out).trans (But.setCell w9 B 0 _) (fun _ _ h => h)
      have HBK : Hid (w10.heap[B]? = some (.cells #[.slice A2 (dropH hs i).length n2] 62 (0, 0)) ∧ But w9 w10 (fun k => k = B)) := Lib.hid (by rw [h10]; exact ⟨heap_setCell_same w9 B 0 _ _ _ ((HS7.out.more HB9.out).blk), But.setCell w9 B 0 _⟩)
      have hz := (hb10.block w.heap.size (by have := HSZ.out; omega) (by have := HLT.out; omega)).trans HBZ.out
      have hy := (hb10.block (w.heap.size + 1) (by have := HSZ.out; omega) (by have := HLT.out; omega)).trans HBX7.out
      have d0 := cell_of_row _ _ 0 _ _ (0, 0) hy
      have d1 := cell_of_row _ _ 1 _ _ (0, 0) hy
      have d2 := cell_of_row _ _ 2 _ _ (0, 0) hy
      have d3 := cell_of_row _ _ 3 _ _ (0, 0) hy
      have d4 := cell_of_row _ _ 4 _ _ (0, 0) hy
      have y0 := cell_of_row _ _ 0 _ _ (0, 0) hz
      have y1 := cell_of_row _ _ 1 _ _ (0, 0) hz
      have y2 := cell_of_row _ _ 2 _ _ (0, 0) hz
      have y3 := cell_of_row _ _ 3 _ _ (0, 0) hz
      have y4 := cell_of_row _ _ 4 _ _ (0, 0) hz
      have g0 := frozen_of_row _ _ 0 _ _ hz
      have g1 := frozen_of_row _ _ 1 _ _ hz
      have g2 := frozen_of_row _ _ 2 _ _ hz
      have g3 := frozen_of_row _ _ 3 _ _ hz
      have g4 := frozen_of_row _ _ 4 _ _ hz
      have HZ := Lib.hid hz
      clear hz hy hb10 h10 c8 c9 z9
      go_wp2
      have hh := S5.heap HZ.out (.int .i64 x.id) (.slice x.A x.l.length x.c) (.string x.cls) (.int .i64 x.cnt) (.int .i64 x.til)
      have hbut := S5.but w10 w.heap.size (.int .i64 x.id) (.slice x.A x.l.length x.c) (.string x.cls) (.int .i64 x.cnt) (.int .i64 x.til)
      rw [show ((((w10.setCell ⟨w.heap.size, 0, none⟩ (.int .i64 x.id)).setCell ⟨w.heap.size, 1, none⟩ (.slice x.A x.l.length x.c)).setCell ⟨w.heap.size, 2, none⟩ (.string x.cls)).setCell ⟨w.heap.size, 3, none⟩ (.int .i64 x.cnt)).setCell ⟨w.heap.size, 4, none⟩ (.int .i64 x.til) = S5 w10 w.heap.size (.int .i64 x.id) (.slice x.A x.l.length x.c) (.string x.cls) (.int .i64 x.cnt) (.int .i64 x.til) from rfl]
      generalize S5 w10 w.heap.size (.int .i64 x.id) (.slice x.A x.l.length x.c) (.string x.cls) (.int .i64 x.cnt) (.int .i64 x.til) = w11 at *
      have d0 := cell_of_row _ _ 0 _ _ (0, 0) hh
      have d1 := cell_of_row _ _ 1 _ _ (0, 0) hh
      have d2 := cell_of_row _ _ 2 _ _ (0, 0) hh
      have d3 := cell_of_row _ _ 3 _ _ (0, 0) hh
      have d4 := cell_of_row _ _ 4 _ _ (0, 0) hh
      have hF := HS.out.toF (w2 := w9) (w3 := w11) HO2.out (by have := HSZ.out; omega) (by
          have h7b := HW7.out
          rw [← HE7.out] at h7b
          exact h7b.trans (HB9.out.mono h7b.size)) (But.both HBK.out.2 hbut (fun k e => .inl e) (fun k e => .inr (by have := HSZ.out; omega))) ((hbut.block B (by have := (Array.getElem?_eq_some_iff.1 HBK.out.1).1; omega) (by have := HLT.out; omega)).trans HBK.out.1) HSR.out (fun y hy => HS.out.ok y (mem_drop.1 hy).1)
      refine bodyPost_ret (v := .tuple #[aggH x, .int .i64 0]) ?_ rfl ⟨rfl, hF.1, hF.2⟩
      simp [results, Try.results14, go_sem, d0, d1, d2, d3, d4]
    · have c5 := c0
      go_enter Try.func14, Try.ntmps14
      go_upto_region 6 with (go_at_call 30; (with_reducible refine K.out.mono ?_); rintro e w6 ⟨rfl, rfl⟩)
      rw [← HE7.out] at c1 ⊢
      clear c0 c5 x0 x1 x2 x3 x4 h7
      go_upto_region 7 with (at_builtin; refine wpList_rappl rowRH rfl _ _ rfl HO0.out rfl (hs.take k) _ rfl (HT.out _) HM1.out ?_; intro v1 w8 hO1 hC1)
      have HB8 := Lib.hid (hC1.below HO0.out)
      have HO1 := Lib.hid hO1
      have c8 := bel_cell HB8.out c1
      clear hO1 hC1 c1
      go_upto_region 8 with (at_builtin; refine wpList_rappl rowRH rfl _ _ rfl HO1.out rfl (hs.drop (k + 1)) _ rfl (HD.out _ HB8.out) HM2.out ?_; intro v2 w9 hO2 hC2; have HB9 := Lib.hid (HB8.out.trans (hC2.below HO1.out)); rw [List.nil_append, ← HSP.out] at hO2; obtain ⟨A2, n2, rfl, hn2⟩ := own_form hO2; have HO2 := Lib.hid hO2; have c9 := (HS7.out.more HB9.out).box; have z9 := (HS7.out.more HB9.out).froz; clear hO2 hC2 hn2)
      obtain ⟨w10, h10⟩ : ∃ w10, w10 = w9.setCell ⟨B, 0, none⟩ (.slice A2 (dropH hs i).length n2) := ⟨_, rfl⟩
      rw [← h10]
      have hb10 : But w7 w10 (fun k => k = B) := by rw [h10]; exact (But.of_below HB9.out).trans (But.setCell w9 B 0 _) (fun _ _ h => h)
      have HBK : Hid (w10.heap[B]? = some (.cells #[.slice A2 (dropH hs i).length n2] 62 (0, 0)) ∧ But w9 w10 (fun k => k = B)) := Lib.hid (by rw [h10]; exact ⟨heap_setCell_same w9 B 0 _ _ _ ((HS7.out.more HB9.out).blk), But.setCell w9 B 0 _⟩)
      have hz := (hb10.block w.heap.size (by have := HSZ.out; omega) (by have := HLT.out; omega)).trans HBZ.out
      have hy := (hb10.block (w.heap.size + 1) (by have := HSZ.out; omega) (by have := HLT.out; omega)).trans HBX7.out
      have d0 := cell_of_row _ _ 0 _ _ (0, 0) hy
      have d1 := cell_of_row _ _ 1 _ _ (0, 0) hy
      have d2 := cell_of_row _ _ 2 _ _ (0, 0) hy
      have d3 := cell_of_row _ _ 3 _ _ (0, 0) hy
      have d4 := cell_of_row _ _ 4 _ _ (0, 0) hy
      have y0 := cell_of_row _ _ 0 _ _ (0, 0) hz
      have y1 := cell_of_row _ _ 1 _ _ (0, 0) hz
      have y2 := cell_of_row _ _ 2 _ _ (0, 0) hz
      have y3 := cell_of_row _ _ 3 _ _ (0, 0) hz
      have y4 := cell_of_row _ _ 4 _ _ (0, 0) hz
      have g0 := frozen_of_row _ _ 0 _ _ hz
      have g1 := frozen_of_row _ _ 1 _ _ hz
      have g2 := frozen_of_row _ _ 2 _ _ hz
      have g3 := frozen_of_row _ _ 3 _ _ hz
      have g4 := frozen_of_row _ _ 4 _ _ hz
      have HZ := Lib.hid hz
      clear hz hy hb10 h10 c8 c9 z9
      go_wp2
      have hh := S5.heap HZ.out (.int .i64 x.id) (.slice x.A x.l.length x.c) (.string x.cls) (.int .i64 x.cnt) (.int .i64 x.til)
      have hbut := S5.but w10 w.heap.size (.int .i64 x.id) (.slice x.A x.l.length x.c) (.string x.cls) (.int .i64 x.cnt) (.int .i64 x.til)
      rw [show ((((w10.setCell ⟨w.heap.size, 0, none⟩ (.int .i64 x.id)).setCell ⟨w.heap.size, 1, none⟩ (.slice x.A x.l.length x.c)).setCell ⟨w.heap.size, 2, none⟩ (.string x.cls)).setCell ⟨w.heap.size, 3, none⟩ (.int .i64 x.cnt)).setCell ⟨w.heap.size, 4, none⟩ (.int .i64 x.til) = S5 w10 w.heap.size (.int .i64 x.id) (.slice x.A x.l.length x.c) (.string x.cls) (.int .i64 x.cnt) (.int .i64 x.til) from rfl]
      generalize S5 w10 w.heap.size (.int .i64 x.id) (.slice x.A x.l.length x.c) (.string x.cls) (.int .i64 x.cnt) (.int .i64 x.til) = w11 at *
      have d0 := cell_of_row _ _ 0 _ _ (0, 0) hh
      have d1 := cell_of_row _ _ 1 _ _ (0, 0) hh
      have d2 := cell_of_row _ _ 2 _ _ (0, 0) hh
      have d3 := cell_of_row _ _ 3 _ _ (0, 0) hh
      have d4 := cell_of_row _ _ 4 _ _ (0, 0) hh
      have hF := HS.out.toF (w2 := w9) (w3 := w11) HO2.out (by have := HSZ.out; omega) (by
          have h7b := HW7.out
          rw [← HE7.out] at h7b
          exact h7b.trans (HB9.out.mono h7b.size)) (But.both HBK.out.2 hbut (fun k e => .inl e) (fun k e => .inr (by have := HSZ.out; omega))) ((hbut.block B (by have := (Array.getElem?_eq_some_iff.1 HBK.out.1).1; omega) (by have := HLT.out; omega)).trans HBK.out.1) HSR.out (fun y hy => HS.out.ok y (mem_drop.1 hy).1)
      refine bodyPost_ret (v := .tuple #[aggH x, .int .i64 0]) ?_ rfl ⟨rfl, hF.1, hF.2⟩
      simp [results, Try.results14, go_sem, d0, d1, d2, d3, d4]
end Go.Proofs.Ythillkbcbklhaaa
