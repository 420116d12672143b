/- Walks of container/heap: Push, Pop. -/
import Derived.Test.YtjokpfeiganigaaDoorPlaJ2
namespace Go.Proofs.YtjokpfeiganigaaDoor
open Go.RowKit Go.Shelf
set_option linter.unusedSimpArgs false
set_option linter.unusedVariables false

theorem But.weak {w w' : World} {X Y : Nat → Prop} (h : But w w' X) (hx : ∀ k, X k → Y k) : But w w' Y := ⟨h.os, h.tape, h.output, h.size, fun k hk hn => h.block k hk fun hy => hn (hx k hy)⟩
theorem heap_take {l : List Stp} {n : Nat} (h : HeapB l n) (hn : n ≤ l.length) : HeapB (l.take n) (l.take n).length := by
  have hl : (l.take n).length = n := by rw [List.length_take]; omega
  have K : ∀ i, i < n → key (l.take n) i = key l i := fun i hi => by
    unfold key el
    rw [List.getD_eq_getElem?_getD, List.getD_eq_getElem?_getD, List.getElem?_take_of_lt hi]
  intro i h0 hi
  rw [hl] at hi
  rw [K _ (by omega), K _ hi]
  exact h i h0 hi

set_option maxRecDepth 100000 in
set_option maxHeartbeats 4000000 in
theorem hpush_any (Q r cap : Nat) (cur : Array Value) (l : List Stp) (x : Stp) (w : World) (h : HQ w Q r cap cur l) (hb : l.length < 999999) (hH : HeapB l l.length) :
    Calls Tryd.prog 78 #[encQ Q, .iface stopT (.agg #[.string x.1, .int .i64 (x.2 : Int)])] w fun e w' => e = .returned (.tuple #[]) ∧
      ∃ g cap' cur' l', HQ w' Q g cap' cur' l' ∧ l'.Perm (l ++ [x]) ∧ HeapB l' l'.length ∧ But w w' (fun k => k = Q ∨ k = r) ∧ (g = r ∨ w.heap.size ≤ g) := by
  have MP := m_push Q w
  have CP := Lib.hid (qpush_any Q r cap cur l x w h (by omega))
  have hlx : (l ++ [x]).length = l.length + 1 := by simp
  have HX := Lib.hid (heap_push hH x)
  have hb2 : (l ++ [x]).length < 1000000 := by omega
  have hi : ((l ++ [x]).length : Int) - 1 = (l.length : Int) := by omega
  have hjl : l.length < (l ++ [x]).length := by omega
  have CU := Lib.hid (fun g cap' cur' W hq => hup_any Q g cap' cur' (l ++ [x]) l.length W hq hb2 hjl HX.out)
  have CL := Lib.hid (fun A c W => qlen_any A (l ++ [x]).length c W)
  clear h hH hlx hjl
  generalize hL : (l ++ [x]) = L at *
  have HL := Lib.hid hL
  clear hL
  have w1 : wrap64 ((L.length : Int) - 1) = (l.length : Int) := by rw [IntWalk.wrap64_in _ (by omega), hi]
  generalize (l.length : Int) = ll at *
  go_enter Tryd.func78, Tryd.ntmps78
  go_wp2_with (first
    | (go_at_call 164; refine CP.out.mono ?_; rintro e w1 ⟨rfl, g, cap', cur1, hq1, hb1, hg⟩; have ML := m_len (box_cell hq1))
    | (go_at_call 76; refine (CL.out _ _ _).mono ?_; rintro e w2 ⟨rfl, rfl⟩)
    | (go_at_call 101; refine (CU.out _ _ _ _ hq1).mono ?_; rintro e w3 ⟨rfl, cur2, l2, hq2, hp2, hh2, hb2⟩))
  refine bodyPost_end (results_none rfl _ _ _) rfl ⟨rfl, g, cap', cur2, l2, hq2, hp2, hh2, hb1.trans hb2 (fun k hk e => ?_), hg⟩
  subst e
  rcases hg with e | e
  · exact .inr e
  · omega

set_option maxRecDepth 100000 in
set_option maxHeartbeats 4000000 in
theorem hpop_any (Q r cap : Nat) (cur : Array Value) (l : List Stp) (n : Nat) (w : World) (h : HQ w Q r cap cur l) (hn : l.length = n + 1) (hb : l.length < 999999) (hH : HeapB l l.length) :
    Calls Tryd.prog 77 #[encQ Q] w fun e w' => ∃ (x : Stp) (l' : List Stp) (cur' : Array Value), e = .returned (.iface stopT (.agg #[.string x.1, .int .i64 (x.2 : Int)])) ∧
      HQ w' Q r cap cur' l' ∧ l.Perm (x :: l') ∧ (∀ y ∈ l, x.2 ≤ y.2) ∧ HeapB l' l'.length ∧ But w w' (fun k => k = Q ∨ k = r) := by
  have ML := m_len (box_cell h)
  have CL := Lib.hid (fun A c W => qlen_any A l.length c W)
  have MS := m_swap (box_cell h)
  have h0 : 0 < l.length := by omega
  have hnl : n < l.length := by omega
  have CS := Lib.hid (swapq_any 0 n h h0 hnl)
  have hsl := swapL_len l 0 n
  have e1 : l.length - 1 = n := by omega
  have HX := Lib.hid (heap_pop hH h0)
  have HF := Lib.hid (fun l2 hp hlen he => heap_first (l2 := l2) hH h0 hp hlen he)
  rw [e1] at HX HF
  have CD := Lib.hid (fun cur' W hq => hdown_any Q r cap cur' (swapL l 0 n) n W hq (by rw [hsl]; omega) (by rw [hsl]; omega) HX.out)
  have hi : (l.length : Int) - 1 = (n : Int) := by omega
  have w1 : wrap64 ((l.length : Int) - 1) = (n : Int) := by rw [IntWalk.wrap64_in _ (by omega), hi]
  have CQ := Lib.hid (fun cur' (l2 : List Stp) W (hq : HQ W Q r cap cur' l2) (hlen : l2.length = n + 1) => qpop_any Q r cap cur' l2 n W hq hlen (by omega))
  have HHn := Lib.hid (show n ≤ l.length by omega)
  have HSL := Lib.hid (hsl.trans hn)
  have HN := Lib.hid hn
  have Mp := fun W => m_pop Q W
  clear h hH h0 hnl hsl e1 hn
  generalize hS : swapL l 0 n = sl at *
  clear hS
  go_enter Tryd.func77, Tryd.ntmps77
  go_wp2_with (first
    | (go_at_call 76; refine (CL.out _ _ _).mono ?_; rintro e w2 ⟨rfl, rfl⟩)
    | (go_at_call 165; refine CS.out.mono ?_; rintro e w1 ⟨rfl, cur1, hq1, hb1⟩)
    | (go_at_call 100; refine (CD.out _ _ hq1).mono ?_; rintro e w2 ⟨⟨bb, rfl⟩, cur2, l2, hq2, hp2, hlen2, hh2, he2, hb2⟩; have Hlen2 := Lib.hid (hlen2.trans HSL.out); clear hlen2)
    | (go_at_call 163; refine (CQ.out _ _ _ hq2 Hlen2.out).mono ?_; rintro e w3 ⟨rfl, hq3, hb3⟩))
  go_ret
  obtain ⟨k1, k2⟩ := HF.out l2 hp2 (Hlen2.out.trans HN.out.symm) (he2 n (Nat.le_refl _))
  exact ⟨el l2 n, l2.take n, cur2, by rw [he2 n (Nat.le_refl _)]; rfl, hq3, k1, k2, heap_take hh2 (by rw [Hlen2.out]; omega), ((hb1.trans hb2 (fun _ _ h => h)).weak (fun _ h => .inr h)).trans hb3 (fun _ _ h => .inl h)⟩

end Go.Proofs.YtjokpfeiganigaaDoor
