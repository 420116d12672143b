/- Walk of Find. -/
import Derived.Test.YtkcdifanhdakhaaDoorPlaC
import Derived.Test.YtkcdifanhdakhaaDoorPlaJ3
namespace Go.Proofs.YtkcdifanhdakhaaDoor
open Go.RowKit Go.Shelf
set_option linter.unusedSimpArgs false
set_option linter.unusedVariables false

theorem frozen_more {w w' : World} {b j : Nat} (hb : Below w.heap.size w w') (hlt : b < w.heap.size) (h : w.frozen? ⟨b, j, none⟩ = false) : w'.frozen? ⟨b, j, none⟩ = false := (World.frozen?_of_block (a := ⟨b, j, none⟩) (hb.block b hlt)).trans h
theorem ShL.but {w w' : World} {X : Nat → Prop} {A : Option Addr} {l : Shs} (h : ShL w A l) (hb : But w w' X) (hA : A = none ∨ ∃ g, A = some ⟨g, 0, none⟩ ∧ ¬ X g) : ShL w' A l := by
  rcases h with h | ⟨b, o, rfl, hlt, hc⟩
  · exact .inl h
  · have hx : ¬ X b := by
      rcases hA with h | ⟨g, e, hx⟩
      · cases h
      · cases e; exact hx
    exact .inr ⟨b, o, rfl, Nat.lt_of_lt_of_le hlt hb.size, fun i hi => ⟨(World.cell?_of_block (a := ⟨b, o + i * 2, none⟩) (hb.block b hlt hx)).trans (hc i hi).1, (World.cell?_of_block (a := ⟨b, o + i * 2 + 1, none⟩) (hb.block b hlt hx)).trans (hc i hi).2⟩⟩

/-- five stores into a block of an airport -/
def S5 (w : World) (N : Nat) (v0 v1 v2 v3 v4 : Value) : World := ((((w.setCell ⟨N, 0, none⟩ v0).setCell ⟨N, 1, none⟩ v1).setCell ⟨N, 2, none⟩ v2).setCell ⟨N, 3, none⟩ v3).setCell ⟨N, 4, none⟩ v4
theorem S5.heap {w : World} {N : Nat} {a0 a1 a2 a3 a4 : Value} (h : w.heap[N]? = some (.cells #[a0, a1, a2, a3, a4] airT (0, 0))) (v0 v1 v2 v3 v4 : Value) : (S5 w N v0 v1 v2 v3 v4).heap[N]? = some (.cells #[v0, v1, v2, v3, v4] airT (0, 0)) := by
  have e1 := heap_setCell_same w N 0 _ airT v0 h
  have e2 := heap_setCell_same _ N 1 _ airT v1 e1
  have e3 := heap_setCell_same _ N 2 _ airT v2 e2
  have e4 := heap_setCell_same _ N 3 _ airT v3 e3
  have e5 := heap_setCell_same _ N 4 _ airT v4 e4
  exact e5
theorem S5.but (w : World) (N : Nat) (v0 v1 v2 v3 v4 : Value) : But w (S5 w N v0 v1 v2 v3 v4) (fun k => k = N) :=
  ((((But.setCell w N 0 v0).trans (But.setCell _ N 1 v1) (fun _ _ h => h)).trans (But.setCell _ N 2 v2) (fun _ _ h => h)).trans (But.setCell _ N 3 v3) (fun _ _ h => h)).trans (But.setCell _ N 4 v4) (fun _ _ h => h)
def FindR (o : Option Air) (e : Ending) (w' : World) : Prop := match o with
  | none => e = .returned (.tuple #[encA airZ, .bool false])
  | some a => ∃ A' c', e = .returned (.tuple #[encA { a with A := A', c := c' }, .bool true]) ∧ ShL w' A' a.shs

set_option maxRecDepth 100000 in
set_option maxHeartbeats 4000000 in
theorem find_any (p : PV) (s : ByteArray) (w : World) (hl : p.l.length ≤ 40) (hL : AirL w p.A p.l) (hs : ∀ a ∈ p.l, a.shs.length ≤ 300) :
    Calls Tryd.prog 51 #[encP p, .string s] w fun e w' => Below w.heap.size w w' ∧ FindR (findC p.l s) e w' := by
  obtain ⟨A, ca, l, D, cd, ds⟩ := p
  dsimp only at *
  have hb1 := bel_alloc w (.cells #[.slice A l.length ca, .slice D ds.length cd] placesT)
  have hb0 : Below w.heap.size w ((w.alloc (.cells #[.slice A l.length ca, .slice D ds.length cd] placesT)).alloc (.cells #[.string noB, .string noB, .string noB, .int .i64 0, .slice none 0 0] airT)) := hb1.alloc hb1.size _
  have hb2 := bel_alloc (w.alloc (.cells #[.slice A l.length ca, .slice D ds.length cd] placesT)) (.cells #[.string noB, .string noB, .string noB, .int .i64 0, .slice none 0 0] airT)
  have p0 := bel_cell hb2 ((cells_new w #[.slice A l.length ca, .slice D ds.length cd] placesT 0).trans rfl)
  have p1 := bel_cell hb2 ((cells_new w #[.slice A l.length ca, .slice D ds.length cd] placesT 1).trans rfl)
  have hN := heap_alloc_new (w.alloc (.cells #[.slice A l.length ca, .slice D ds.length cd] placesT)) (.cells #[.string noB, .string noB, .string noB, .int .i64 0, .slice none 0 0] airT)
  simp only [World.size_alloc] at hN
  have hL5 := hL.more hb0
  go_enter Tryd.func51, Tryd.ntmps51
  generalize hw5 : (w.alloc (.cells #[.slice A l.length ca, .slice D ds.length cd] placesT)).alloc (.cells #[.string noB, .string noB, .string noB, .int .i64 0, .slice none 0 0] airT) = w5 at *
  have f0 : ∀ W, SW w5 W → W.cell? ⟨w.heap.size, 0, none⟩ = some (.slice A l.length ca) := bel_get p0
  have f1 : ∀ W, SW w5 W → W.cell? ⟨w.heap.size, 1, none⟩ = some (.slice D ds.length cd) := bel_get p1
  have hS : SW w5 w5 := Below.refl _ _
  have CC := Lib.hid (SW.call (w5 := w5) (fun W h => byCode_any ⟨A, ca, l, D, cd, ds⟩ s W hl (hL5.more h)))
  have hNl : w.heap.size + 1 < w5.heap.size := (Array.getElem?_eq_some_iff.1 hN).1
  have n0 : ∀ W, SW w5 W → W.cell? ⟨w.heap.size + 1, 0, none⟩ = some (.string noB) := bel_get ((cell_of_row w5 _ 0 _ _ (0, 0) hN).trans rfl)
  have n1 : ∀ W, SW w5 W → W.cell? ⟨w.heap.size + 1, 1, none⟩ = some (.string noB) := bel_get ((cell_of_row w5 _ 1 _ _ (0, 0) hN).trans rfl)
  have n2 : ∀ W, SW w5 W → W.cell? ⟨w.heap.size + 1, 2, none⟩ = some (.string noB) := bel_get ((cell_of_row w5 _ 2 _ _ (0, 0) hN).trans rfl)
  have n3 : ∀ W, SW w5 W → W.cell? ⟨w.heap.size + 1, 3, none⟩ = some (.int .i64 0) := bel_get ((cell_of_row w5 _ 3 _ _ (0, 0) hN).trans rfl)
  have n4 : ∀ W, SW w5 W → W.cell? ⟨w.heap.size + 1, 4, none⟩ = some (.slice none 0 0) := bel_get ((cell_of_row w5 _ 4 _ _ (0, 0) hN).trans rfl)
  have fz : ∀ j W, SW w5 W → W.frozen? ⟨w.heap.size + 1, j, none⟩ = false := fun j W hW => frozen_more hW hNl (frozen_of_row w5 _ j _ _ hN)
  rcases idxA_find (fun a => eqS a.code s) l with ⟨h1, h2⟩ | ⟨k, a, h1, h2, h3, h4⟩
  · rw [h1] at CC
    have HR : Hid (findC l s = none) := Lib.hid h2
    clear h1 h2 hL hL5 p0 p1
    go_wp2_with (go_at_call 70; with_reducible refine (CC.out _ hS).mono ?_; rintro e w1 ⟨rfl, hS⟩; have x0 := f0 _ hS; have x1 := f1 _ hS; have y0 := n0 _ hS; have y1 := n1 _ hS; have y2 := n2 _ hS; have y3 := n3 _ hS; have y4 := n4 _ hS; have z0 := fz 0 _ hS; have z1 := fz 1 _ hS; have z2 := fz 2 _ hS; have z3 := fz 3 _ hS; have z4 := fz 4 _ hS)
    have hN1 := (hS.block _ hNl).trans hN
    have hx := S5.heap hN1 (.string noB) (.string noB) (.string noB) (.int .i64 0) (.slice none 0 0)
    have hbt := S5.but w1 (w.heap.size + 1) (.string noB) (.string noB) (.string noB) (.int .i64 0) (.slice none 0 0)
    have c0 := (cell_of_row _ _ 0 _ _ (0, 0) hx).trans rfl
    have c1 := (cell_of_row _ _ 1 _ _ (0, 0) hx).trans rfl
    have c2 := (cell_of_row _ _ 2 _ _ (0, 0) hx).trans rfl
    have c3 := (cell_of_row _ _ 3 _ _ (0, 0) hx).trans rfl
    have c4 := (cell_of_row _ _ 4 _ _ (0, 0) hx).trans rfl
    have hbw : Below w.heap.size w (S5 w1 (w.heap.size + 1) (.string noB) (.string noB) (.string noB) (.int .i64 0) (.slice none 0 0)) := (hb0.trans (Below.mono hS hb0.size)).trans (hbt.below (Nat.le_trans hb0.size hS.size) (fun k hk => by omega))
    refine bodyPost_ret (v := .tuple #[encA airZ, .bool false]) ?_ rfl ⟨hbw, by rw [HR.out]; exact rfl⟩
    change (results _ _).run Tryd.prog (S5 w1 (w.heap.size + 1) (.string noB) (.string noB) (.string noB) (.int .i64 0) (.slice none 0 0)) = .ok _ (S5 w1 (w.heap.size + 1) (.string noB) (.string noB) (.string noB) (.int .i64 0) (.slice none 0 0))
    generalize S5 w1 (w.heap.size + 1) (.string noB) (.string noB) (.string noB) (.int .i64 0) (.slice none 0 0) = W at c0 c1 c2 c3 c4 ⊢
    simp [results, Tryd.results51, go_sem, c0, c1, c2, c3, c4, airZ]
  · rw [h1] at CC
    have HR : Hid (findC l s = some a) := Lib.hid h3
    have i1 : (0 : Int) ≤ (k : Int) := by omega
    have i2 : (k : Int) < (l.length : Int) := by omega
    obtain ⟨b, o, a', rfl, hgl, hka, ha⟩ := hL5.at h4
    rw [h2] at hka
    obtain rfl := Option.some.inj hka
    have hlen := hs a (List.mem_of_getElem? h2)
    obtain ⟨a0, a1, a2, a3, a4, ash⟩ := ha
    have g0 := bel_get a0
    have g1 := bel_get a1
    have g2 := bel_get a2
    have g3 := bel_get a3
    have g4 := bel_get a4
    have HSH : Hid (∀ W, SW w5 W → ShL W a.A a.shs) := Lib.hid (fun W hW => ash.more hW)
    have KC := Lib.hid (fun W (h : ShL W a.A a.shs) => clone_any a.A a.c a.shs W hlen h)
    clear hL hL5 h1 h2 h3 a0 a1 a2 a3 a4 ash p0 p1
    go_wp2_with (first
      | (go_at_call 70; with_reducible refine (CC.out _ hS).mono ?_; rintro e w1 ⟨rfl, hS⟩; have x0 := f0 _ hS; have x1 := f1 _ hS; have y0 := g0 _ hS; have y1 := g1 _ hS; have y2 := g2 _ hS; have y3 := g3 _ hS; have y4 := g4 _ hS)
      | (go_at_call 71; refine (KC.out _ ((HSH.out _ hS).more (bel_alloc _ _))).mono ?_; rintro e w7 ⟨A', c', rfl, hsh7, hb7, hA7⟩; refine Hid.out ?_))
    have hbM := bel_alloc w1 (.cells #[.string a.code, .string a.city, .string a.land, .int .i64 a.off, .slice a.A a.shs.length a.c] airT)
    have hM := heap_alloc_new w1 (.cells #[.string a.code, .string a.city, .string a.land, .int .i64 a.off, .slice a.A a.shs.length a.c] airT)
    have hMl : w1.heap.size < (w1.alloc (.cells #[.string a.code, .string a.city, .string a.land, .int .i64 a.off, .slice a.A a.shs.length a.c] airT)).heap.size := by simp
    have hM7 := (hb7.block _ hMl).trans hM
    have hNM : w.heap.size + 1 ≠ w1.heap.size := by have := hS.size; omega
    have hN7 := ((hb7.block _ (Nat.lt_of_lt_of_le (Nat.lt_of_lt_of_le hNl hS.size) hbM.size)).trans (hbM.block _ (Nat.lt_of_lt_of_le hNl hS.size))).trans ((hS.block _ hNl).trans hN)
    have hb8 := But.setCell w7 w1.heap.size 4 (.slice A' a.shs.length c')
    have hM8 := heap_setCell_same w7 w1.heap.size 4 _ airT (.slice A' a.shs.length c') hM7
    have hN8 := (hb8.block (w.heap.size + 1) (Array.getElem?_eq_some_iff.1 hN7).1 hNM).trans hN7
    have hMl7 : w1.heap.size < w7.heap.size := (Array.getElem?_eq_some_iff.1 hM7).1
    have m4 := (cell_of_row w7 _ 4 _ _ (0, 0) hM7).trans rfl
    have mz := frozen_of_row w7 _ 4 _ _ hM7
    have u0 := (cell_of_row _ _ 0 _ _ (0, 0) hM8).trans (show _ = some _ from rfl)
    have u1 := (cell_of_row _ _ 1 _ _ (0, 0) hM8).trans (show _ = some _ from rfl)
    have u2 := (cell_of_row _ _ 2 _ _ (0, 0) hM8).trans (show _ = some _ from rfl)
    have u3 := (cell_of_row _ _ 3 _ _ (0, 0) hM8).trans (show _ = some _ from rfl)
    have u4 := (cell_of_row _ _ 4 _ _ (0, 0) hM8).trans (show _ = some _ from rfl)
    have v0 := (cell_of_row _ _ 0 _ _ (0, 0) hN8).trans (show _ = some _ from rfl)
    have t0 := frozen_of_row _ _ 0 _ _ hN8
    have v1 := (cell_of_row _ _ 1 _ _ (0, 0) hN8).trans (show _ = some _ from rfl)
    have t1 := frozen_of_row _ _ 1 _ _ hN8
    have v2 := (cell_of_row _ _ 2 _ _ (0, 0) hN8).trans (show _ = some _ from rfl)
    have t2 := frozen_of_row _ _ 2 _ _ hN8
    have v3 := (cell_of_row _ _ 3 _ _ (0, 0) hN8).trans (show _ = some _ from rfl)
    have t3 := frozen_of_row _ _ 3 _ _ hN8
    have v4 := (cell_of_row _ _ 4 _ _ (0, 0) hN8).trans (show _ = some _ from rfl)
    have t4 := frozen_of_row _ _ 4 _ _ hN8
    have hx := S5.heap hN8 (.string a.code) (.string a.city) (.string a.land) (.int .i64 a.off) (.slice A' a.shs.length c')
    have hbt := S5.but (w7.setCell ⟨w1.heap.size, 4, none⟩ (.slice A' a.shs.length c')) (w.heap.size + 1) (.string a.code) (.string a.city) (.string a.land) (.int .i64 a.off) (.slice A' a.shs.length c')
    have hbx : Below w.heap.size w w7 := (hb0.trans (Below.mono hS hb0.size)).trans ((hbM.trans (Below.mono hb7 hbM.size)).mono (Nat.le_trans hb0.size hS.size))
    have hall := (hb8.weak (Y := fun k => k = w1.heap.size ∨ k = w.heap.size + 1) (fun _ h => .inl h)).trans hbt (fun _ _ h => .inr h)
    have c0 := (cell_of_row _ _ 0 _ _ (0, 0) hx).trans (show _ = some _ from rfl)
    have c1 := (cell_of_row _ _ 1 _ _ (0, 0) hx).trans (show _ = some _ from rfl)
    have c2 := (cell_of_row _ _ 2 _ _ (0, 0) hx).trans (show _ = some _ from rfl)
    have c3 := (cell_of_row _ _ 3 _ _ (0, 0) hx).trans (show _ = some _ from rfl)
    have c4 := (cell_of_row _ _ 4 _ _ (0, 0) hx).trans (show _ = some _ from rfl)
    have hs1 := hS.size
    have hbw : Below w.heap.size w (S5 (w7.setCell ⟨w1.heap.size, 4, none⟩ (.slice A' a.shs.length c')) (w.heap.size + 1) (.string a.code) (.string a.city) (.string a.land) (.int .i64 a.off) (.slice A' a.shs.length c')) := hbx.trans (hall.below hbx.size (fun k hk => by have := hb0.size; omega))
    have hshx : ShL (S5 (w7.setCell ⟨w1.heap.size, 4, none⟩ (.slice A' a.shs.length c')) (w.heap.size + 1) (.string a.code) (.string a.city) (.string a.land) (.int .i64 a.off) (.slice A' a.shs.length c')) A' a.shs := hsh7.but hall (by
      rcases hA7 with h | ⟨g, h, hg⟩
      · exact .inl h
      · exact .inr ⟨g, h, by simp only [World.size_alloc] at hg; omega⟩)
    clear hsh7 hA7 hall hbx hb8
    refine Lib.hid ?_
    go_wp2
    refine bodyPost_ret (v := .tuple #[encA { a with A := A', c := c' }, .bool true]) ?_ rfl ⟨hbw, by rw [HR.out]; exact ⟨A', c', rfl, hshx⟩⟩
    change (results _ _).run Tryd.prog (S5 (w7.setCell ⟨w1.heap.size, 4, none⟩ (.slice A' a.shs.length c')) (w.heap.size + 1) (.string a.code) (.string a.city) (.string a.land) (.int .i64 a.off) (.slice A' a.shs.length c')) = .ok _ (S5 (w7.setCell ⟨w1.heap.size, 4, none⟩ (.slice A' a.shs.length c')) (w.heap.size + 1) (.string a.code) (.string a.city) (.string a.land) (.int .i64 a.off) (.slice A' a.shs.length c'))
    generalize S5 (w7.setCell ⟨w1.heap.size, 4, none⟩ (.slice A' a.shs.length c')) (w.heap.size + 1) (.string a.code) (.string a.city) (.string a.land) (.int .i64 a.off) (.slice A' a.shs.length c') = W at c0 c1 c2 c3 c4 ⊢
    simp [results, Tryd.results51, go_sem, c0, c1, c2, c3, c4]

end Go.Proofs.YtkcdifanhdakhaaDoor
