/- The law's own examples. -/
import Derived.Test.YtggbflogndpnoaaMarK
import Derived.Test.YtggbflogndpnoaaMarM
import Derived.Test.YtggbflogndpnoaaMarZ
namespace Go.Proofs.Ytggbflogndpnoaa
open Go.RowKit Go.Shelf Go.Maps
set_option linter.unusedSimpArgs false
set_option linter.unusedVariables false

theorem lit_row (W : World) (l : List Int) {cs : Array Value} (hcs : cs = (cellsR encI l).toArray) (c : Nat) : IntR (W.alloc (.cells cs 3)) (.slice (some ⟨W.heap.size, 0, none⟩) l.length c) l := RowL.new W l 3 rowI.len hcs c
theorem i64_lit {l : List Int} (h : l.all (fun x => decide (-9223372036854775808 ≤ x) && decide (x ≤ 9223372036854775807)) = true) : I64L l := fun x hx => by
  have := List.all_eq_true.1 h x hx
  simpa using this
/-- what a list call tells, with what was there kept -/
def LitR (xs : List Int) (w : World) (e : Ending) (w' : World) : Prop := ∃ v, e = .returned (.tuple #[v, .int .i64 0]) ∧ IntR w' v xs ∧ Below w.heap.size w w'
theorem lst_lit {xs ys : List Int} {er : Int} {w W : World} (hb : Below w.heap.size w W) (h1 : xs = ys) (h2 : er = 0) {e : Ending} {w' : World} (h : LstR xs er W e w') : LitR ys w e w' := by
  subst h1 h2
  obtain ⟨v, he, hv, hb2⟩ := h
  exact ⟨v, he, hv, hb.trans (hb2.mono hb.size)⟩
def LitG (w : World) (e : Ending) (w' : World) : Prop := ∃ (gb gc : Nat) (x : Gp), e = .returned (.tuple #[.slice (some ⟨gb, 0, none⟩) 2 gc, .int .i64 0]) ∧ w'.cell? ⟨gb, 1, none⟩ = some (.slice (some ⟨x.b, 0, none⟩) 2 x.c) ∧ IntR w' (.slice (some ⟨x.b, 0, none⟩) 2 x.c) [1, 2] ∧ Below w.heap.size w w'
theorem two_of : ∀ {xs : List Gp}, xs.map Gp.l = [[0], [1, 2]] → ∃ x0 x1, xs = [x0, x1]
  | [], h => by simp at h
  | [a], h => by simp at h
  | [a, b], _ => ⟨a, b, rfl⟩
  | a :: b :: c :: r, h => by simp at h
theorem grp_lit {w W : World} (hb : Below w.heap.size w W) {e : Ending} {w' : World} {gs : List (List Int)} {er : Int} (h : GrpR gs er W e w') (h1 : gs = [[0], [1, 2]]) (h2 : er = 0) : LitG w e w' := by
  subst h1 h2
  obtain ⟨v, xs, he, hm, hg, hb2⟩ := h
  obtain ⟨x0, x1, rfl⟩ := two_of hm
  simp only [List.map_cons, List.map_nil, List.cons.injEq, and_true] at hm
  have hr := hg.own.rowL rowGp.len
  obtain ⟨gA, gc, rfl, _⟩ := id hr
  obtain ⟨b, o, e1, _, hc⟩ := row_get hr (k := 1) (y := x1) rfl
  have c0 := hc 0 _ rfl
  rw [hm.2] at c0
  have hx := (hg.row x1 (by simp)).1.intR (c := x1.c)
  rw [hm.2] at hx
  rcases hg.own.own.2 with ⟨e2, h0⟩ | ⟨g, cap, cur, e2, _⟩
  · cases h0
  · cases e2
    cases e1
    rw [Nat.zero_add] at c0
    exact ⟨_, _, x1, he, c0, hx, hb.trans (hb2.mono hb.size)⟩
theorem same_lit (W : World) {v : Value} {xs : List Int} (hv : IntR W v xs) (l : List Int) {cs : Array Value} (hcs : cs = (cellsR encI l).toArray) (n : Nat) (he : xs = l ∧ l.length ≤ 1000 ∧ l.length = n) :
    Calls Try.prog 12 #[v, .slice (some ⟨W.heap.size, 0, none⟩) n n] (W.alloc (.cells cs 3)) fun e w' => e = .returned (.bool true) ∧ Below W.heap.size W w' := by
  obtain ⟨rfl, hl, rfl⟩ := he
  exact (sameI_any _ _ xs _ (hv.more (bel_alloc W _)) (lit_row W xs hcs _) (by omega)).mono (fun e w' h => ⟨h.1, (bel_alloc W _).trans (h.2.mono (bel_alloc W _).size)⟩)
set_option maxRecDepth 100000 in
theorem ex_Groups (W : World) : Calls Try.prog 8 #[.slice (some ⟨W.heap.size, 0, none⟩) 3 3] (W.alloc (.cells #[.int .i64 0, .int .i64 7, .int .i64 7] 3)) (LitG W) := by
  have hR := lit_row W ([0, 7, 7] : List Int) (cs := #[.int .i64 0, .int .i64 7, .int .i64 7]) rfl 3
  have hI : I64L ([0, 7, 7] : List Int) := i64_lit (by decide)
  exact (groups_any _ 3 ([0, 7, 7] : List Int) _ (by decide) hI hR).mono (fun e w' h => grp_lit (bel_alloc W _) h (by decide) (by decide))
set_option maxRecDepth 100000 in
theorem ex_With (W : World) : Calls Try.prog 13 #[.slice (some ⟨W.heap.size, 0, none⟩) 3 3, .int .i64 2] (W.alloc (.cells #[.int .i64 0, .int .i64 7, .int .i64 7] 3)) (LitR ([1, 2] : List Int) W) := by
  have hR := lit_row W ([0, 7, 7] : List Int) (cs := #[.int .i64 0, .int .i64 7, .int .i64 7]) rfl 3
  have hI : I64L ([0, 7, 7] : List Int) := i64_lit (by decide)
  exact (with_any _ 3 ([0, 7, 7] : List Int) 2 _ (by decide) hI hR).mono (fun e w' h => lst_lit (bel_alloc W _) (by decide) (by decide) h)
set_option maxRecDepth 100000 in
theorem ex_Join (W : World) : Calls Try.prog 19 #[.slice (some ⟨W.heap.size, 0, none⟩) 4 4, .int .i64 0, .int .i64 1] (W.alloc (.cells #[.int .i64 0, .int .i64 0, .int .i64 4, .int .i64 4] 3)) (LitR ([5, 5, 4, 4] : List Int) W) := by
  have hR := lit_row W ([0, 0, 4, 4] : List Int) (cs := #[.int .i64 0, .int .i64 0, .int .i64 4, .int .i64 4]) rfl 4
  have hI : I64L ([0, 0, 4, 4] : List Int) := i64_lit (by decide)
  exact (join_any _ 4 ([0, 0, 4, 4] : List Int) 0 1 _ (by decide) (by decide) hI (by decide) hR).mono (fun e w' h => lst_lit (bel_alloc W _) (by decide) (by decide) h)
set_option maxRecDepth 100000 in
theorem ex_Part (W : World) : Calls Try.prog 15 #[.slice (some ⟨W.heap.size, 0, none⟩) 3 3, .int .i64 0] (W.alloc (.cells #[.int .i64 3, .int .i64 3, .int .i64 0] 3)) (LitR ([0, 0, 0] : List Int) W) := by
  have hR := lit_row W ([3, 3, 0] : List Int) (cs := #[.int .i64 3, .int .i64 3, .int .i64 0]) rfl 3
  have hI : I64L ([3, 3, 0] : List Int) := i64_lit (by decide)
  exact (part_any _ 3 ([3, 3, 0] : List Int) 0 _ (by decide) hI hR).mono (fun e w' h => lst_lit (bel_alloc W _) (by decide) (by decide) h)
set_option maxRecDepth 100000 in
theorem ex_Normal (W : World) : Calls Try.prog 17 #[.slice (some ⟨W.heap.size, 0, none⟩) 5 5] (W.alloc (.cells #[.int .i64 9, .int .i64 9, .int .i64 0, .int .i64 4, .int .i64 4] 3)) (LitR ([1, 1, 0, 2, 2] : List Int) W) := by
  have hR := lit_row W ([9, 9, 0, 4, 4] : List Int) (cs := #[.int .i64 9, .int .i64 9, .int .i64 0, .int .i64 4, .int .i64 4]) rfl 5
  have hI : I64L ([9, 9, 0, 4, 4] : List Int) := i64_lit (by decide)
  exact (normal_any _ 5 ([9, 9, 0, 4, 4] : List Int) _ (by decide) hI hR).mono (fun e w' h => lst_lit (bel_alloc W _) (by decide) (by decide) h)
theorem ex_Checka (W : World) : Calls Try.prog 10 #[.slice (some ⟨W.heap.size, 0, none⟩) 3 3] (W.alloc (.cells #[.int .i64 7, .int .i64 0, .int .i64 7] 3)) fun e w' => e = .returned (.int .i64 18) ∧ Below W.heap.size W w' := by
  have hR := lit_row W ([7, 0, 7] : List Int) (cs := #[.int .i64 7, .int .i64 0, .int .i64 7]) rfl 3
  have hI : I64L ([7, 0, 7] : List Int) := i64_lit (by decide)
  exact (check_any _ 3 ([7, 0, 7] : List Int) _ (by decide) hI hR).mono (fun e w' h => ⟨h.1, (bel_alloc W _).trans (h.2.mono (bel_alloc W _).size)⟩)
theorem ex_Checkb (W : World) : Calls Try.prog 10 #[.slice (some ⟨W.heap.size, 0, none⟩) 5 5] (W.alloc (.cells #[.int .i64 0, .int .i64 7, .int .i64 7, .int .i64 2, .int .i64 2] 3)) fun e w' => e = .returned (.int .i64 0) ∧ Below W.heap.size W w' := by
  have hR := lit_row W ([0, 7, 7, 2, 2] : List Int) (cs := #[.int .i64 0, .int .i64 7, .int .i64 7, .int .i64 2, .int .i64 2]) rfl 5
  have hI : I64L ([0, 7, 7, 2, 2] : List Int) := i64_lit (by decide)
  exact (check_any _ 5 ([0, 7, 7, 2, 2] : List Int) _ (by decide) hI hR).mono (fun e w' h => ⟨h.1, (bel_alloc W _).trans (h.2.mono (bel_alloc W _).size)⟩)
set_option maxRecDepth 100000 in
set_option maxHeartbeats 8000000 in
theorem knows_any (w : World) : Calls Try.prog 7 #[] w fun e w' => e = .returned (.bool true) ∧ Below w.heap.size w w' := by
  go_enter Try.func7, Try.ntmps7
  go_upto_region 2 with (go_at_call 8; (with_reducible refine (ex_Groups _).mono ?_); rintro e w1 ⟨gb, gc, x, rfl, hc1, hx1, hb1⟩)
  go_upto_region 3 with (go_at_call 13; (with_reducible refine (ex_With _).mono ?_); rintro e w2 ⟨v2, rfl, hv2, hb2⟩)
  go_upto_region 4 with (go_at_call 19; (with_reducible refine (ex_Join _).mono ?_); rintro e w3 ⟨v3, rfl, hv3, hb3⟩)
  go_upto_region 5 with (go_at_call 15; (with_reducible refine (ex_Part _).mono ?_); rintro e w4 ⟨v4, rfl, hv4, hb4⟩)
  go_upto_region 6 with (go_at_call 17; (with_reducible refine (ex_Normal _).mono ?_); rintro e w5 ⟨v5, rfl, hv5, hb5⟩)
  have c1 := bel_cell hb5 (bel_cell hb4 (bel_cell hb3 (bel_cell hb2 hc1)))
  have HB : Hid (Below w.heap.size w w5) := Lib.hid ((((hb1.trans (hb2.mono hb1.size)).trans (hb3.mono (hb1.trans (hb2.mono hb1.size)).size)).trans (hb4.mono ((hb1.trans (hb2.mono hb1.size)).trans (hb3.mono (hb1.trans (hb2.mono hb1.size)).size)).size)).trans (hb5.mono (((hb1.trans (hb2.mono hb1.size)).trans (hb3.mono (hb1.trans (hb2.mono hb1.size)).size)).trans (hb4.mono ((hb1.trans (hb2.mono hb1.size)).trans (hb3.mono (hb1.trans (hb2.mono hb1.size)).size)).size)).size))
  have K1 := Lib.hid (fun W (h : Below w5.heap.size w5 W) => same_lit W ((((hx1.more hb2).more hb3).more hb4).more hb5 |>.more h) [1, 2] (cs := #[.int .i64 1, .int .i64 2]) rfl 2 (by decide))
  have K2 := Lib.hid (fun W (h : Below w5.heap.size w5 W) => same_lit W ((((hv2.more hb3).more hb4).more hb5).more h) [1, 2] (cs := #[.int .i64 1, .int .i64 2]) rfl 2 (by decide))
  have K3 := Lib.hid (fun W (h : Below w5.heap.size w5 W) => same_lit W (((hv3.more hb4).more hb5).more h) [5, 5, 4, 4] (cs := #[.int .i64 5, .int .i64 5, .int .i64 4, .int .i64 4]) rfl 4 (by decide))
  have K4 := Lib.hid (fun W (h : Below w5.heap.size w5 W) => same_lit W ((hv4.more hb5).more h) [0, 0, 0] (cs := #[.int .i64 0, .int .i64 0, .int .i64 0]) rfl 3 (by decide))
  have K5 := Lib.hid (fun W (h : Below w5.heap.size w5 W) => same_lit W (hv5.more h) [1, 1, 0, 2, 2] (cs := #[.int .i64 1, .int .i64 1, .int .i64 0, .int .i64 2, .int .i64 2]) rfl 5 (by decide))
  clear hb1 hb2 hb3 hb4 hb5 hv2 hv3 hv4 hv5 hx1 hc1
  have hS : Below w5.heap.size w5 w5 := Below.refl _ _
  go_wp2_with (first
    | (go_at_call 12; (with_reducible refine (K1.out _ hS).mono ?_); rintro e w6 ⟨rfl, hb⟩; have hS6 := hS.trans (hb.mono hS.size); clear hb)
    | (go_at_call 12; (with_reducible refine (K2.out _ hS6).mono ?_); rintro e w7 ⟨rfl, hb⟩; have hS7 := hS6.trans (hb.mono hS6.size); clear hb)
    | (go_at_call 12; (with_reducible refine (K3.out _ hS7).mono ?_); rintro e w8 ⟨rfl, hb⟩; have hS8 := hS7.trans (hb.mono hS7.size); clear hb)
    | (go_at_call 12; (with_reducible refine (K4.out _ hS8).mono ?_); rintro e w9 ⟨rfl, hb⟩; have hS9 := hS8.trans (hb.mono hS8.size); clear hb)
    | (go_at_call 12; (with_reducible refine (K5.out _ hS9).mono ?_); rintro e w10 ⟨rfl, hb⟩; have hS10 := hS9.trans (hb.mono hS9.size); clear hb)
    | (go_at_call 10; (with_reducible refine (ex_Checka _).mono ?_); rintro e w11 ⟨rfl, hb⟩; have hS11 := hS10.trans (hb.mono hS10.size); clear hb)
    | (go_at_call 10; (with_reducible refine (ex_Checkb _).mono ?_); rintro e w12 ⟨rfl, hb⟩; have hS12 := hS11.trans (hb.mono hS11.size); clear hb))
  go_ret
  exact ⟨rfl, HB.out.trans (hS12.mono HB.out.size)⟩
end Go.Proofs.Ytggbflogndpnoaa
