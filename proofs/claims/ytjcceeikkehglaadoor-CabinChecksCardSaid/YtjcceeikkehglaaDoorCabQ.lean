/- The configurations of the law's examples. -/
import Derived.Test.YtjcceeikkehglaaDoorCabO
import Derived.Test.YtjcceeikkehglaaDoorCabM
import Derived.Deep.CutRange
import Derived.Deep.CutBlock
namespace Go.Proofs.YtjcceeikkehglaaDoor
open Go.RowKit Go.Shelf
set_option linter.unusedSimpArgs false
set_option linter.unusedVariables false

theorem rows_more {α : Type} {enc : α → List Value} {sz : Nat} {w w' : World} {v : Value} {l : List α} (h : RowL sz enc w v l) (hb : Below w.heap.size w w') : RowL sz enc w' v l := h.more hb
abbrev sampleF (g b0 b1 : Nat) : Cf := ⟨⟨#[55, 55, 55]⟩, some ⟨g, 0, none⟩, 2, [⟨⟨#[70]⟩, 4, 0, some ⟨b0, 0, none⟩, 1, [⟨⟨#[70]⟩, 0⟩]⟩, ⟨⟨#[89]⟩, 10, 1, some ⟨b1, 0, none⟩, 2, [⟨⟨#[89]⟩, 3⟩, ⟨⟨#[77]⟩, 5⟩]⟩]⟩
abbrev otherF (g b0 : Nat) : Cf := ⟨⟨#[51, 50, 48]⟩, some ⟨g, 0, none⟩, 1, [⟨⟨#[89]⟩, 9, 0, some ⟨b0, 0, none⟩, 2, [⟨⟨#[89]⟩, 0⟩, ⟨⟨#[66]⟩, 0⟩]⟩]⟩
set_option maxRecDepth 100000 in
set_option maxHeartbeats 4000000 in
theorem sample_any (w : World) : Calls Tryd.prog 23 #[] w fun e w' => ∃ g b0 b1 : Nat, e = .returned (.agg #[.string ⟨#[55, 55, 55]⟩, .slice (some ⟨g, 0, none⟩) 2 2]) ∧ CfAt w' (sampleF g b0 b1) ∧ Below w.heap.size w w' := by
  have n0 := cell_of_row _ _ 0 _ _ (0, 0) (heap_alloc_new w (.cells #[.string noB, .slice none 0 0] cfT))
  have hN := heap_alloc_new w (.cells #[.string ⟨#[55, 55, 55]⟩, .slice (some ⟨(w.heap.size + 1 + 1 + 1), 0, none⟩) 2 2] cfT)
  have hb := bel_alloc w (.cells #[.string ⟨#[55, 55, 55]⟩, .slice (some ⟨(w.heap.size + 1 + 1 + 1), 0, none⟩) 2 2] cfT)
  have hb0 := bel_alloc (w.alloc (.cells #[.string ⟨#[55, 55, 55]⟩, .slice (some ⟨(w.heap.size + 1 + 1 + 1), 0, none⟩) 2 2] cfT)) (.cells #[.string ⟨#[70]⟩, .int .i64 0] clT)
  have hb1 := bel_alloc ((w.alloc (.cells #[.string ⟨#[55, 55, 55]⟩, .slice (some ⟨(w.heap.size + 1 + 1 + 1), 0, none⟩) 2 2] cfT)).alloc (.cells #[.string ⟨#[70]⟩, .int .i64 0] clT)) (.cells #[.string ⟨#[89]⟩, .int .i64 3, .string ⟨#[77]⟩, .int .i64 5] clT)
  have hb2 := bel_alloc (((w.alloc (.cells #[.string ⟨#[55, 55, 55]⟩, .slice (some ⟨(w.heap.size + 1 + 1 + 1), 0, none⟩) 2 2] cfT)).alloc (.cells #[.string ⟨#[70]⟩, .int .i64 0] clT)).alloc (.cells #[.string ⟨#[89]⟩, .int .i64 3, .string ⟨#[77]⟩, .int .i64 5] clT)) (.cells #[.string ⟨#[70]⟩, .int .i64 4, .int .i64 0, .slice (some ⟨(w.heap.size + 1), 0, none⟩) 1 1, .string ⟨#[89]⟩, .int .i64 10, .int .i64 1, .slice (some ⟨(w.heap.size + 1 + 1), 0, none⟩) 2 2] cbT)
  have s0 : (w.alloc (.cells #[.string ⟨#[55, 55, 55]⟩, .slice (some ⟨(w.heap.size + 1 + 1 + 1), 0, none⟩) 2 2] cfT)).heap.size = (w.heap.size + 1) := by simp only [World.size_alloc]
  have s1 : ((w.alloc (.cells #[.string ⟨#[55, 55, 55]⟩, .slice (some ⟨(w.heap.size + 1 + 1 + 1), 0, none⟩) 2 2] cfT)).alloc (.cells #[.string ⟨#[70]⟩, .int .i64 0] clT)).heap.size = (w.heap.size + 1 + 1) := by simp only [World.size_alloc]
  have s2 : (((w.alloc (.cells #[.string ⟨#[55, 55, 55]⟩, .slice (some ⟨(w.heap.size + 1 + 1 + 1), 0, none⟩) 2 2] cfT)).alloc (.cells #[.string ⟨#[70]⟩, .int .i64 0] clT)).alloc (.cells #[.string ⟨#[89]⟩, .int .i64 3, .string ⟨#[77]⟩, .int .i64 5] clT)).heap.size = (w.heap.size + 1 + 1 + 1) := by simp only [World.size_alloc]
  have r0 : ClL ((w.alloc (.cells #[.string ⟨#[55, 55, 55]⟩, .slice (some ⟨(w.heap.size + 1 + 1 + 1), 0, none⟩) 2 2] cfT)).alloc (.cells #[.string ⟨#[70]⟩, .int .i64 0] clT)) (.slice (some ⟨(w.heap.size + 1), 0, none⟩) 1 1) [⟨⟨#[70]⟩, 0⟩] := by
    have h := RowL.new (enc := encCl) (sz := 2) (w.alloc (.cells #[.string ⟨#[55, 55, 55]⟩, .slice (some ⟨(w.heap.size + 1 + 1 + 1), 0, none⟩) 2 2] cfT)) [⟨⟨#[70]⟩, 0⟩] clT (fun _ => rfl) (cs := #[.string ⟨#[70]⟩, .int .i64 0]) rfl 1
    rw [s0] at h
    exact h
  have r1 : ClL (((w.alloc (.cells #[.string ⟨#[55, 55, 55]⟩, .slice (some ⟨(w.heap.size + 1 + 1 + 1), 0, none⟩) 2 2] cfT)).alloc (.cells #[.string ⟨#[70]⟩, .int .i64 0] clT)).alloc (.cells #[.string ⟨#[89]⟩, .int .i64 3, .string ⟨#[77]⟩, .int .i64 5] clT)) (.slice (some ⟨(w.heap.size + 1 + 1), 0, none⟩) 2 2) [⟨⟨#[89]⟩, 3⟩, ⟨⟨#[77]⟩, 5⟩] := by
    have h := RowL.new (enc := encCl) (sz := 2) ((w.alloc (.cells #[.string ⟨#[55, 55, 55]⟩, .slice (some ⟨(w.heap.size + 1 + 1 + 1), 0, none⟩) 2 2] cfT)).alloc (.cells #[.string ⟨#[70]⟩, .int .i64 0] clT)) [⟨⟨#[89]⟩, 3⟩, ⟨⟨#[77]⟩, 5⟩] clT (fun _ => rfl) (cs := #[.string ⟨#[89]⟩, .int .i64 3, .string ⟨#[77]⟩, .int .i64 5]) rfl 2
    rw [s1] at h
    exact h
  have rr : RowL 4 encCb ((((w.alloc (.cells #[.string ⟨#[55, 55, 55]⟩, .slice (some ⟨(w.heap.size + 1 + 1 + 1), 0, none⟩) 2 2] cfT)).alloc (.cells #[.string ⟨#[70]⟩, .int .i64 0] clT)).alloc (.cells #[.string ⟨#[89]⟩, .int .i64 3, .string ⟨#[77]⟩, .int .i64 5] clT)).alloc (.cells #[.string ⟨#[70]⟩, .int .i64 4, .int .i64 0, .slice (some ⟨(w.heap.size + 1), 0, none⟩) 1 1, .string ⟨#[89]⟩, .int .i64 10, .int .i64 1, .slice (some ⟨(w.heap.size + 1 + 1), 0, none⟩) 2 2] cbT)) (.slice (some ⟨(w.heap.size + 1 + 1 + 1), 0, none⟩) 2 2) (sampleF (w.heap.size + 1 + 1 + 1) (w.heap.size + 1) (w.heap.size + 1 + 1)).l := by
    have h := RowL.new (enc := encCb) (sz := 4) (((w.alloc (.cells #[.string ⟨#[55, 55, 55]⟩, .slice (some ⟨(w.heap.size + 1 + 1 + 1), 0, none⟩) 2 2] cfT)).alloc (.cells #[.string ⟨#[70]⟩, .int .i64 0] clT)).alloc (.cells #[.string ⟨#[89]⟩, .int .i64 3, .string ⟨#[77]⟩, .int .i64 5] clT)) (sampleF (w.heap.size + 1 + 1 + 1) (w.heap.size + 1) (w.heap.size + 1 + 1)).l cbT (fun _ => rfl) (cs := #[.string ⟨#[70]⟩, .int .i64 4, .int .i64 0, .slice (some ⟨(w.heap.size + 1), 0, none⟩) 1 1, .string ⟨#[89]⟩, .int .i64 10, .int .i64 1, .slice (some ⟨(w.heap.size + 1 + 1), 0, none⟩) 2 2]) rfl 2
    rw [s2] at h
    exact h
  have r0 := RowL.more r0 hb1
  have r0 := RowL.more r0 hb2
  have r1 := RowL.more r1 hb2
  have hN := (hb0.block _ (lt_of_cell2 hN)).trans hN
  have hN := (hb1.block _ (lt_of_cell2 hN)).trans hN
  have hN := (hb2.block _ (lt_of_cell2 hN)).trans hN
  have hbb : Below w.heap.size w ((((w.alloc (.cells #[.string ⟨#[55, 55, 55]⟩, .slice (some ⟨(w.heap.size + 1 + 1 + 1), 0, none⟩) 2 2] cfT)).alloc (.cells #[.string ⟨#[70]⟩, .int .i64 0] clT)).alloc (.cells #[.string ⟨#[89]⟩, .int .i64 3, .string ⟨#[77]⟩, .int .i64 5] clT)).alloc (.cells #[.string ⟨#[70]⟩, .int .i64 4, .int .i64 0, .slice (some ⟨(w.heap.size + 1), 0, none⟩) 1 1, .string ⟨#[89]⟩, .int .i64 10, .int .i64 1, .slice (some ⟨(w.heap.size + 1 + 1), 0, none⟩) 2 2] cbT)) := by
    have h := hb
    have h := h.trans (hb0.mono h.size)
    have h := h.trans (hb1.mono h.size)
    have h := h.trans (hb2.mono h.size)
    exact h
  obtain ⟨c0, c1, _, _⟩ := row2_cells hN
  have hAt : CfAt ((((w.alloc (.cells #[.string ⟨#[55, 55, 55]⟩, .slice (some ⟨(w.heap.size + 1 + 1 + 1), 0, none⟩) 2 2] cfT)).alloc (.cells #[.string ⟨#[70]⟩, .int .i64 0] clT)).alloc (.cells #[.string ⟨#[89]⟩, .int .i64 3, .string ⟨#[77]⟩, .int .i64 5] clT)).alloc (.cells #[.string ⟨#[70]⟩, .int .i64 4, .int .i64 0, .slice (some ⟨(w.heap.size + 1), 0, none⟩) 1 1, .string ⟨#[89]⟩, .int .i64 10, .int .i64 1, .slice (some ⟨(w.heap.size + 1 + 1), 0, none⟩) 2 2] cbT)) (sampleF (w.heap.size + 1 + 1 + 1) (w.heap.size + 1) (w.heap.size + 1 + 1)) := ⟨rr, fun b hb => by
    simp only [List.mem_cons, List.not_mem_nil, or_false] at hb
    rcases hb with rfl | rfl
    · exact r0
    · exact r1⟩
  have HX := Lib.hid (And.intro hAt hbb)
  have C0 := Lib.hid c0
  have C1 := Lib.hid c1
  clear hAt r0 r1 rr hN hbb hb c0 c1 n0 hb0 s0 hb1 s1 hb2 s2
  go_enter Tryd.func23, Tryd.ntmps23
  go_wp2
  refine bodyPost_ret (v := .agg #[.string ⟨#[55, 55, 55]⟩, .slice (some ⟨(w.heap.size + 1 + 1 + 1), 0, none⟩) 2 2]) ?_ rfl ⟨_, _, _, rfl, HX.out.1, HX.out.2⟩
  have c0 := C0.out
  have c1 := C1.out
  generalize ((((w.alloc (.cells #[.string ⟨#[55, 55, 55]⟩, .slice (some ⟨(w.heap.size + 1 + 1 + 1), 0, none⟩) 2 2] cfT)).alloc (.cells #[.string ⟨#[70]⟩, .int .i64 0] clT)).alloc (.cells #[.string ⟨#[89]⟩, .int .i64 3, .string ⟨#[77]⟩, .int .i64 5] clT)).alloc (.cells #[.string ⟨#[70]⟩, .int .i64 4, .int .i64 0, .slice (some ⟨(w.heap.size + 1), 0, none⟩) 1 1, .string ⟨#[89]⟩, .int .i64 10, .int .i64 1, .slice (some ⟨(w.heap.size + 1 + 1), 0, none⟩) 2 2] cbT)) = WW at c0 c1 ⊢
  simp [results, Tryd.results23, go_sem, c0, c1]
set_option maxRecDepth 100000 in
set_option maxHeartbeats 4000000 in
theorem other_any (w : World) : Calls Tryd.prog 24 #[] w fun e w' => ∃ g b0 : Nat, e = .returned (.agg #[.string ⟨#[51, 50, 48]⟩, .slice (some ⟨g, 0, none⟩) 1 1]) ∧ CfAt w' (otherF g b0) ∧ Below w.heap.size w w' := by
  have n0 := cell_of_row _ _ 0 _ _ (0, 0) (heap_alloc_new w (.cells #[.string noB, .slice none 0 0] cfT))
  have hN := heap_alloc_new w (.cells #[.string ⟨#[51, 50, 48]⟩, .slice (some ⟨(w.heap.size + 1 + 1), 0, none⟩) 1 1] cfT)
  have hb := bel_alloc w (.cells #[.string ⟨#[51, 50, 48]⟩, .slice (some ⟨(w.heap.size + 1 + 1), 0, none⟩) 1 1] cfT)
  have hb0 := bel_alloc (w.alloc (.cells #[.string ⟨#[51, 50, 48]⟩, .slice (some ⟨(w.heap.size + 1 + 1), 0, none⟩) 1 1] cfT)) (.cells #[.string ⟨#[89]⟩, .int .i64 0, .string ⟨#[66]⟩, .int .i64 0] clT)
  have hb1 := bel_alloc ((w.alloc (.cells #[.string ⟨#[51, 50, 48]⟩, .slice (some ⟨(w.heap.size + 1 + 1), 0, none⟩) 1 1] cfT)).alloc (.cells #[.string ⟨#[89]⟩, .int .i64 0, .string ⟨#[66]⟩, .int .i64 0] clT)) (.cells #[.string ⟨#[89]⟩, .int .i64 9, .int .i64 0, .slice (some ⟨(w.heap.size + 1), 0, none⟩) 2 2] cbT)
  have s0 : (w.alloc (.cells #[.string ⟨#[51, 50, 48]⟩, .slice (some ⟨(w.heap.size + 1 + 1), 0, none⟩) 1 1] cfT)).heap.size = (w.heap.size + 1) := by simp only [World.size_alloc]
  have s1 : ((w.alloc (.cells #[.string ⟨#[51, 50, 48]⟩, .slice (some ⟨(w.heap.size + 1 + 1), 0, none⟩) 1 1] cfT)).alloc (.cells #[.string ⟨#[89]⟩, .int .i64 0, .string ⟨#[66]⟩, .int .i64 0] clT)).heap.size = (w.heap.size + 1 + 1) := by simp only [World.size_alloc]
  have r0 : ClL ((w.alloc (.cells #[.string ⟨#[51, 50, 48]⟩, .slice (some ⟨(w.heap.size + 1 + 1), 0, none⟩) 1 1] cfT)).alloc (.cells #[.string ⟨#[89]⟩, .int .i64 0, .string ⟨#[66]⟩, .int .i64 0] clT)) (.slice (some ⟨(w.heap.size + 1), 0, none⟩) 2 2) [⟨⟨#[89]⟩, 0⟩, ⟨⟨#[66]⟩, 0⟩] := by
    have h := RowL.new (enc := encCl) (sz := 2) (w.alloc (.cells #[.string ⟨#[51, 50, 48]⟩, .slice (some ⟨(w.heap.size + 1 + 1), 0, none⟩) 1 1] cfT)) [⟨⟨#[89]⟩, 0⟩, ⟨⟨#[66]⟩, 0⟩] clT (fun _ => rfl) (cs := #[.string ⟨#[89]⟩, .int .i64 0, .string ⟨#[66]⟩, .int .i64 0]) rfl 2
    rw [s0] at h
    exact h
  have rr : RowL 4 encCb (((w.alloc (.cells #[.string ⟨#[51, 50, 48]⟩, .slice (some ⟨(w.heap.size + 1 + 1), 0, none⟩) 1 1] cfT)).alloc (.cells #[.string ⟨#[89]⟩, .int .i64 0, .string ⟨#[66]⟩, .int .i64 0] clT)).alloc (.cells #[.string ⟨#[89]⟩, .int .i64 9, .int .i64 0, .slice (some ⟨(w.heap.size + 1), 0, none⟩) 2 2] cbT)) (.slice (some ⟨(w.heap.size + 1 + 1), 0, none⟩) 1 1) (otherF (w.heap.size + 1 + 1) (w.heap.size + 1)).l := by
    have h := RowL.new (enc := encCb) (sz := 4) ((w.alloc (.cells #[.string ⟨#[51, 50, 48]⟩, .slice (some ⟨(w.heap.size + 1 + 1), 0, none⟩) 1 1] cfT)).alloc (.cells #[.string ⟨#[89]⟩, .int .i64 0, .string ⟨#[66]⟩, .int .i64 0] clT)) (otherF (w.heap.size + 1 + 1) (w.heap.size + 1)).l cbT (fun _ => rfl) (cs := #[.string ⟨#[89]⟩, .int .i64 9, .int .i64 0, .slice (some ⟨(w.heap.size + 1), 0, none⟩) 2 2]) rfl 1
    rw [s1] at h
    exact h
  have r0 := RowL.more r0 hb1
  have hN := (hb0.block _ (lt_of_cell2 hN)).trans hN
  have hN := (hb1.block _ (lt_of_cell2 hN)).trans hN
  have hbb : Below w.heap.size w (((w.alloc (.cells #[.string ⟨#[51, 50, 48]⟩, .slice (some ⟨(w.heap.size + 1 + 1), 0, none⟩) 1 1] cfT)).alloc (.cells #[.string ⟨#[89]⟩, .int .i64 0, .string ⟨#[66]⟩, .int .i64 0] clT)).alloc (.cells #[.string ⟨#[89]⟩, .int .i64 9, .int .i64 0, .slice (some ⟨(w.heap.size + 1), 0, none⟩) 2 2] cbT)) := by
    have h := hb
    have h := h.trans (hb0.mono h.size)
    have h := h.trans (hb1.mono h.size)
    exact h
  obtain ⟨c0, c1, _, _⟩ := row2_cells hN
  have hAt : CfAt (((w.alloc (.cells #[.string ⟨#[51, 50, 48]⟩, .slice (some ⟨(w.heap.size + 1 + 1), 0, none⟩) 1 1] cfT)).alloc (.cells #[.string ⟨#[89]⟩, .int .i64 0, .string ⟨#[66]⟩, .int .i64 0] clT)).alloc (.cells #[.string ⟨#[89]⟩, .int .i64 9, .int .i64 0, .slice (some ⟨(w.heap.size + 1), 0, none⟩) 2 2] cbT)) (otherF (w.heap.size + 1 + 1) (w.heap.size + 1)) := ⟨rr, fun b hb => by
    simp only [List.mem_cons, List.not_mem_nil, or_false] at hb
    subst hb; exact r0⟩
  have HX := Lib.hid (And.intro hAt hbb)
  have C0 := Lib.hid c0
  have C1 := Lib.hid c1
  clear hAt r0 rr hN hbb hb c0 c1 n0 hb0 s0 hb1 s1
  go_enter Tryd.func24, Tryd.ntmps24
  go_wp2
  refine bodyPost_ret (v := .agg #[.string ⟨#[51, 50, 48]⟩, .slice (some ⟨(w.heap.size + 1 + 1), 0, none⟩) 1 1]) ?_ rfl ⟨_, _, rfl, HX.out.1, HX.out.2⟩
  have c0 := C0.out
  have c1 := C1.out
  generalize (((w.alloc (.cells #[.string ⟨#[51, 50, 48]⟩, .slice (some ⟨(w.heap.size + 1 + 1), 0, none⟩) 1 1] cfT)).alloc (.cells #[.string ⟨#[89]⟩, .int .i64 0, .string ⟨#[66]⟩, .int .i64 0] clT)).alloc (.cells #[.string ⟨#[89]⟩, .int .i64 9, .int .i64 0, .slice (some ⟨(w.heap.size + 1), 0, none⟩) 2 2] cbT)) = WW at c0 c1 ⊢
  simp [results, Tryd.results24, go_sem, c0, c1]
end Go.Proofs.YtjcceeikkehglaaDoor
