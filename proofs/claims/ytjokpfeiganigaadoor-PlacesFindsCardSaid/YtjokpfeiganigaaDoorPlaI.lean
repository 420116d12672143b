/- Walks of the queue's Pop and Push. -/
import Derived.Test.YtjokpfeiganigaaDoorPlaH
import Derived.Deep.RegionLaw
namespace Go.Proofs.YtjokpfeiganigaaDoor
open Go.RowKit Go.Shelf
set_option linter.unusedSimpArgs false
set_option linter.unusedVariables false

theorem box_cell {w : World} {Q r cap : Nat} {cur : Array Value} {l : List Stp} (h : HQ w Q r cap cur l) : w.cell? ⟨Q, 0, none⟩ = some (.slice (some ⟨r, 0, none⟩) l.length cap) :=
  (cell_of_row w Q 0 _ _ (0, 0) h.box).trans rfl
theorem HQ.lt {w : World} {Q r cap : Nat} {cur : Array Value} {l : List Stp} (h : HQ w Q r cap cur l) : Q < w.heap.size ∧ r < w.heap.size := ⟨(Array.getElem?_eq_some_iff.1 h.box).1, (Array.getElem?_eq_some_iff.1 h.row).1⟩
theorem HQ.but {w w' : World} {X : Nat → Prop} {Q r cap : Nat} {cur : Array Value} {l : List Stp} (h : HQ w Q r cap cur l) (hb : But w w' X) (h1 : ¬ X Q) (h2 : ¬ X r) : HQ w' Q r cap cur l :=
  ⟨(hb.block Q h.lt.1 h1).trans h.box, (hb.block r h.lt.2 h2).trans h.row, h.le, h.max, h.size, h.take, h.ne⟩
theorem HQ.more {w w' : World} {Q r cap : Nat} {cur : Array Value} {l : List Stp} (h : HQ w Q r cap cur l) (hb : Below w.heap.size w w') : HQ w' Q r cap cur l := h.but (X := fun _ => False) (But.of_below hb) id id
/-- the queue's variable is written -/
theorem HQ.boxed {w : World} {Q r cap : Nat} {cur : Array Value} {l : List Stp} (h : HQ w Q r cap cur l) (n : Nat) (hn : n ≤ l.length) :
    HQ (w.setCell ⟨Q, 0, none⟩ (.slice (some ⟨r, 0, none⟩) n cap)) Q r cap cur (l.take n) ∧ But w (w.setCell ⟨Q, 0, none⟩ (.slice (some ⟨r, 0, none⟩) n cap)) (fun k => k = Q) := by
  have hb := But.setCell w Q 0 (.slice (some ⟨r, 0, none⟩) n cap)
  have e := heap_setCell_same w Q 0 _ queueT (.slice (some ⟨r, 0, none⟩) n cap) h.box
  have hlen : (l.take n).length = n := by rw [List.length_take]; omega
  refine ⟨⟨by rw [hlen]; exact e, (hb.block r h.lt.2 (fun e => h.ne e.symm)).trans h.row, by rw [hlen]; have := h.le; omega, h.max, h.size, ?_, h.ne⟩, hb⟩
  rw [hlen]
  have h1 : cur.toList.take (n * 2) = (cellsS l).take (n * 2) := by
    rw [← h.take, List.take_take, Nat.min_eq_left (by omega)]
  rw [h1]
  have h2 : cellsS l = cellsS (l.take n) ++ cellsS (l.drop n) := by rw [← cellsS_app, List.take_append_drop]
  rw [h2, List.take_left']
  rw [cellsS_len, hlen]

set_option maxRecDepth 100000 in
set_option maxHeartbeats 2000000 in
theorem qpop_any (Q r cap : Nat) (cur : Array Value) (l : List Stp) (n : Nat) (w : World) (h : HQ w Q r cap cur l) (hn : l.length = n + 1) (hb : l.length < 1000000) :
    Calls Tryd.prog 163 #[.pointer (some ⟨Q, 0, none⟩)] w fun e w' => e = .returned (.iface stopT (.agg #[.string (el l n).1, .int .i64 ((el l n).2 : Int)])) ∧ HQ w' Q r cap cur (l.take n) ∧ But w w' (fun k => k = Q) := by
  obtain ⟨c1, c2⟩ := h.cells n (by omega)
  have hq := box_cell h
  have hlt := h.lt
  have hle := h.le
  have fz := frozen_of_row w Q 0 _ _ h.box
  have i0 : (l.length : Int) - 1 = (n : Int) := by omega
  have i1 : (n : Int) < (l.length : Int) := by omega
  have i2 : (n : Int) ≤ (cap : Int) := by omega
  have HB := Lib.hid h.boxed
  have HH := Lib.hid h
  clear h
  generalize el l n = x at *
  go_enter Tryd.func163, Tryd.ntmps163
  go_wp2
  go_ret
  obtain ⟨k1, k2⟩ := HB.out n (by omega)
  exact ⟨rfl, k1.more (bel_alloc _ _), k2.trans (But.of_below (bel_alloc _ _)) (fun _ _ h => h)⟩

theorem HQ.own {w : World} {Q r cap : Nat} {cur : Array Value} {l : List Stp} (h : HQ w Q r cap cur l) : w.ownsRow 0 stopT 2 (.slice (some ⟨r, 0, none⟩) l.length cap) l.length (cellsS l) :=
  ⟨cellsS_len l, .inr ⟨r, cap, cur, rfl, Nat.zero_le _, h.row, h.le, h.max, h.size, h.take⟩⟩
theorem HQ.pushed {w w1 w' : World} {Q r cap g cap' : Nat} {cur : Array Value} {l : List Stp} {x : Stp} (h : HQ w Q r cap cur l) (hb : Below w.heap.size w w1)
    (hown : w'.ownsRow 0 stopT 2 (.slice (some ⟨g, 0, none⟩) (l.length + 1) cap') (l.length + 1) (cellsS l ++ cellsS [x])) (hgrow : w1.grownBy w' (some r)) (hloc : some r = some g ∨ g = w1.heap.size) :
    (∃ cur', HQ (w'.setCell ⟨Q, 0, none⟩ (.slice (some ⟨g, 0, none⟩) (l.length + 1) cap')) Q g cap' cur' (l ++ [x])) ∧ But w (w'.setCell ⟨Q, 0, none⟩ (.slice (some ⟨g, 0, none⟩) (l.length + 1) cap')) (fun k => k = Q ∨ k = r) ∧ (g = r ∨ w.heap.size ≤ g) := by
  have hg : g = r ∨ w.heap.size ≤ g := by
    rcases hloc with e | e
    · exact .inl (Option.some.inj e).symm
    · have := hb.size; exact .inr (by omega)
  have hlt := h.lt
  have hne : Q ≠ g := by
    rcases hg with e | e
    · rw [e]; exact h.ne
    · omega
  have b1 : But w w' (fun k => k = Q ∨ k = r) := ⟨hgrow.os.trans hb.os, hgrow.tape.trans hb.tape, hgrow.output.trans hb.output, Nat.le_trans hb.size hgrow.size,
    fun k hk hn => (hgrow.block k (Nat.lt_of_lt_of_le hk hb.size) (fun e => hn (.inr (Option.some.inj e)))).trans (hb.block k hk)⟩
  have hbox : w'.heap[Q]? = some (.cells #[.slice (some ⟨r, 0, none⟩) l.length cap] queueT (0, 0)) :=
    ((hgrow.block Q (Nat.lt_of_lt_of_le hlt.1 hb.size) (fun e => h.ne (Option.some.inj e))).trans (hb.block Q hlt.1)).trans h.box
  have b2 := But.setCell w' Q 0 (.slice (some ⟨g, 0, none⟩) (l.length + 1) cap')
  have e2 := heap_setCell_same w' Q 0 _ queueT (.slice (some ⟨g, 0, none⟩) (l.length + 1) cap') hbox
  obtain ⟨hl, hf | ⟨g', c', cur', he, _, hrow, hle, hmax, hsz, htake⟩⟩ := hown
  · exact absurd hf.2 (by omega)
  simp at he
  obtain ⟨rfl, rfl⟩ := he
  have hgl : g < w'.heap.size := (Array.getElem?_eq_some_iff.1 hrow).1
  have hlen : (l ++ [x]).length = l.length + 1 := by simp
  refine ⟨⟨cur', ⟨by rw [hlen]; exact e2, (b2.block g hgl (fun e => hne e.symm)).trans hrow, by rw [hlen]; exact hle, hmax, hsz, by rw [hlen, cellsS_app]; exact htake, hne⟩⟩, b1.trans b2 (fun k _ hk => .inl hk), hg⟩
theorem info_stop : (Tryd.prog.info? stopT).map (fun i => (i.zero, i.size, i.bytes)) = some (some (.agg #[.string noB, .int .i64 0]), 2, 24) := by kernel_rfl
theorem assert_stop (s : ByteArray) (m : Int) (w : World) : (Instr.typeAssert (.iface stopT (.agg #[.string s, .int .i64 m])) 20 stopT false).run Tryd.prog w = .ok (.agg #[.string s, .int .i64 m]) w := by kernel_rfl
theorem bel_buf (w : World) (o : Obj) : Below w.heap.size w (w.drew.alloc o) := ((Below.refl _ _).drew).alloc (Nat.le_refl _) o

set_option maxRecDepth 100000 in
set_option maxHeartbeats 4000000 in
theorem qpush_any (Q r cap : Nat) (cur : Array Value) (l : List Stp) (x : Stp) (w : World) (h : HQ w Q r cap cur l) (hb : l.length < 1000000) :
    Calls Tryd.prog 164 #[.pointer (some ⟨Q, 0, none⟩), .iface stopT (.agg #[.string x.1, .int .i64 (x.2 : Int)])] w fun e w' => e = .returned (.tuple #[]) ∧
      ∃ g cap' cur', HQ w' Q g cap' cur' (l ++ [x]) ∧ But w w' (fun k => k = Q ∨ k = r) ∧ (g = r ∨ w.heap.size ≤ g) := by
  have hq := box_cell h
  have hlt := h.lt
  have fz := frozen_of_row w Q 0 _ _ h.box
  have HP := Lib.hid (fun w1 w' g cap' => h.pushed (w1 := w1) (w' := w') (g := g) (cap' := cap') (x := x))
  have HH := Lib.hid h
  have HO : Hid (∀ W, Below w.heap.size w W → W.ownsRow 0 stopT 2 (.slice (some ⟨r, 0, none⟩) l.length cap) l.length (cellsS l)) := Lib.hid (fun W hW => (h.more hW).own)
  have hne := h.ne
  clear h
  obtain ⟨i, hi, hz, hz1, hz2⟩ := info_parts info_stop
  have ta := fun W => assert_stop x.1 (x.2 : Int) W
  go_enter Tryd.func164, Tryd.ntmps164
  go_wp2
  go_region_law ((refine step_append_lies _ rfl _ _ queueT rfl 0 stopT i (.agg #[.string noB, .int .i64 0]) 2 24 Tryd.underlying120 hi hz hz1 hz2 rfl (by omega) _ l.length (cellsS l) rfl (HO.out _ (bel_buf _ _)) ⟨w.heap.size, 0, none⟩ 1 1 (cellsS [x]) rfl rfl (World.news_of_block (cs := #[.string x.1, .int .i64 (x.2 : Int)]) (t := stopT) (fr := (0, 0)) (heap_alloc_new w.drew _)) (by intro u hu; simp [cellsS] at hu; rcases hu with rfl | rfl <;> rfl) (by omega) (by unfold maxLen; omega) (by omega) (Nat.zero_le _) _ rfl ?_; intro g cap' w' hown hgrow hloc hgl; have hq2 := hgrow.cell (bel_cell (bel_buf w _) hq) (fun e => hne (Option.some.inj e)); have fz2 := (World.frozen?_of_block (a := ⟨Q, 0, none⟩) ((hgrow.block Q (Nat.lt_of_lt_of_le hlt.1 (bel_buf w _).size) (fun e => hne (Option.some.inj e))).trans ((bel_buf w _).block Q hlt.1))).trans fz))
  all_goals
    have hf := HP.out _ _ _ _ ((bel_alloc w _).drew) hown hgrow hloc
    go_wp2
    obtain ⟨⟨cur', k1⟩, k2, k3⟩ := hf
    exact bodyPost_end (results_none rfl _ _ _) rfl ⟨rfl, g, cap', cur', k1, k2, k3⟩

end Go.Proofs.YtjokpfeiganigaaDoor
