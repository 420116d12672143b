/- Words and walks that the laws below ask: FliB, ZonC, ZonD, FliC, PlaN, PlaL, FliD, FliE, PerD, PerM, PerE. -/
import Derived.Deep.LoopGhost
import Derived.Shelf.Abstract
import Derived.Deep.CutRange
import Derived.Deep.RegionHeld3
import Derived.Deep.Onto
import Derived.Lib.ItoaLen
import Derived.RangeFuncNested
import Derived.RangeFuncBound
import Derived.RangeFuncCalls
import Derived.RangeFuncLeaves
import Derived.Shelf.RegionOpen
import Derived.WalkKit
import Derived.OwnWalkIn
import Derived.TacticsInMore
import Derived.LoopNIn
import Derived.LoopIn
import Derived.Maps.AppendAt
import Derived.Sort.QuietIn
import Derived.Sort.BigQuietIn
import Derived.Deep.AppendLies
import Derived.RangeFuncBox
import Derived.Test.YtldillnjnjkkgaaGreatDoorPk1
import Derived.Test.YtldillnjnjkkgaaGreatDoorPk2
import Derived.Test.YtldillnjnjkkgaaGreatDoorPk3
/- Find, told with where the copy of the shifts lies. -/
namespace Go.Proofs.YtldillnjnjkkgaaGreatDoor
open Go.RowKit Go.Shelf
set_option linter.unusedSimpArgs false
set_option linter.unusedVariables false

/-- what Find hands back: the airport z with its shifts in memory of the call's own (from B on) -/
def FindF (B : Nat) (z : Air) (b : Bool) (e : Ending) (w' : World) : Prop :=
  ∃ A' c', e = .returned (.tuple #[.agg #[.string z.code, .string z.city, .string z.land, .int .i64 z.off, .slice A' z.shs.length c'], .bool b]) ∧ ShL w' A' z.shs ∧ (A' = none ∨ ∃ g, A' = some ⟨g, 0, none⟩ ∧ B ≤ g)

set_option maxRecDepth 100000 in
set_option maxHeartbeats 4000000 in
theorem find2_any (p : PV) (s : ByteArray) (w : World) (hl : p.l.length ≤ 40) (hL : AirL w p.A p.l) (hs : ∀ a ∈ p.l, a.shs.length ≤ 300) :
    Calls Tryz.prog 175 #[encP p, .string s] w fun e w' => Below w.heap.size w w' ∧ FindF w.heap.size ((findC p.l s).getD airZ) (findC p.l s).isSome e w' := by
  obtain ⟨A, ca, l, D, cd, ds⟩ := p
  dsimp only at *
  have hb1 := bel_alloc w (.cells #[.slice A l.length ca, .slice D ds.length cd] placesT)
  have hb0 : Below w.heap.size w ((w.alloc (.cells #[.slice A l.length ca, .slice D ds.length cd] placesT)).alloc (.cells #[.string noB, .string noB, .string noB, .int .i64 0, .slice none 0 0] airT)) := hb1.alloc hb1.size _
  have hb2 := bel_alloc (w.alloc (.cells #[.slice A l.length ca, .slice D ds.length cd] placesT)) (.cells #[.string noB, .string noB, .string noB, .int .i64 0, .slice none 0 0] airT)
  have p0 := bel_cell hb2 ((cells_new w #[.slice A l.length ca, .slice D ds.length cd] placesT 0).trans rfl)
  have p1 := bel_cell hb2 ((cells_new w #[.slice A l.length ca, .slice D ds.length cd] placesT 1).trans rfl)
  have hN := heap_alloc_new (w.alloc (.cells #[.slice A l.length ca, .slice D ds.length cd] placesT)) (.cells #[.string noB, .string noB, .string noB, .int .i64 0, .slice none 0 0] airT)
  simp only [World.size_alloc] at hN
  have hL5 := hL.more hb0
  go_enter Tryz.func175, Tryz.ntmps175
  generalize hw5 : (w.alloc (.cells #[.slice A l.length ca, .slice D ds.length cd] placesT)).alloc (.cells #[.string noB, .string noB, .string noB, .int .i64 0, .slice none 0 0] airT) = w5 at *
  have f0 : ∀ W, SW w5 W → W.cell? ⟨w.heap.size, 0, none⟩ = some (.slice A l.length ca) := bel_get p0
  have f1 : ∀ W, SW w5 W → W.cell? ⟨w.heap.size, 1, none⟩ = some (.slice D ds.length cd) := bel_get p1
  have hS : SW w5 w5 := Below.refl _ _
  have CC := Lib.hid (SW.call (w5 := w5) (fun W h => byCode_any ⟨A, ca, l, D, cd, ds⟩ s W hl (hL5.more h)))
  have hNl : w.heap.size + 1 < w5.heap.size := (Array.getElem?_eq_some_iff.1 hN).1
  have n0 : ∀ W, SW w5 W → W.cell? ⟨w.heap.size + 1, 0, none⟩ = some (.string noB) := bel_get ((cell_of_row w5 _ 0 _ _ (0, 0) hN).trans rfl)
  have n1 : ∀ W, SW w5 W → W.cell? ⟨w.heap.size + 1, 1, none⟩ = some (.string noB) := bel_get ((cell_of_row w5 _ 1 _ _ (0, 0) hN).trans rfl)
  have n2 : ∀ W, SW w5 W → W.cell? ⟨w.heap.size + 1, 2, none⟩ = some (.string noB) := bel_get ((cell_of_row w5 _ 2 _ _ (0, 0) hN).trans rfl)
  have n3 : ∀ W, SW w5 W → W.cell? ⟨w.heap.size + 1, 3, none⟩ = some (.int .i64 0) := bel_get ((cell_of_row w5 _ 3 _ _ (0, 0) hN).trans rfl)
  have n4 : ∀ W, SW w5 W → W.cell? ⟨w.heap.size + 1, 4, none⟩ = some (.slice none 0 0) := bel_get ((cell_of_row w5 _ 4 _ _ (0, 0) hN).trans rfl)
  have fz : ∀ j W, SW w5 W → W.frozen? ⟨w.heap.size + 1, j, none⟩ = false := fun j W hW => frozen_more hW hNl (frozen_of_row w5 _ j _ _ hN)
  rcases idxA_find (fun a => eqS a.code s) l with ⟨h1, h2⟩ | ⟨k, a, h1, h2, h3, h4⟩
  · rw [h1] at CC
    have HR : Hid (findC l s = none) := Lib.hid h2
    clear h1 h2 hL hL5 p0 p1
    go_wp2_with (go_at_call 225; with_reducible refine (CC.out _ hS).mono ?_; rintro e w1 ⟨rfl, hS⟩; have x0 := f0 _ hS; have x1 := f1 _ hS; have y0 := n0 _ hS; have y1 := n1 _ hS; have y2 := n2 _ hS; have y3 := n3 _ hS; have y4 := n4 _ hS; have z0 := fz 0 _ hS; have z1 := fz 1 _ hS; have z2 := fz 2 _ hS; have z3 := fz 3 _ hS; have z4 := fz 4 _ hS)
    have hN1 := (hS.block _ hNl).trans hN
    have hx := S5.heap hN1 (.string noB) (.string noB) (.string noB) (.int .i64 0) (.slice none 0 0)
    have hbt := S5.but w1 (w.heap.size + 1) (.string noB) (.string noB) (.string noB) (.int .i64 0) (.slice none 0 0)
    have c0 := (cell_of_row _ _ 0 _ _ (0, 0) hx).trans rfl
    have c1 := (cell_of_row _ _ 1 _ _ (0, 0) hx).trans rfl
    have c2 := (cell_of_row _ _ 2 _ _ (0, 0) hx).trans rfl
    have c3 := (cell_of_row _ _ 3 _ _ (0, 0) hx).trans rfl
    have c4 := (cell_of_row _ _ 4 _ _ (0, 0) hx).trans rfl
    have hbw : Below w.heap.size w (S5 w1 (w.heap.size + 1) (.string noB) (.string noB) (.string noB) (.int .i64 0) (.slice none 0 0)) := (hb0.trans (Below.mono hS hb0.size)).trans (hbt.below (Nat.le_trans hb0.size hS.size) (fun k hk => by omega))
    refine bodyPost_ret (v := .tuple #[encA airZ, .bool false]) ?_ rfl ⟨hbw, by rw [HR.out]; exact ⟨none, 0, rfl, .inl rfl, .inl rfl⟩⟩
    change (results _ _).run Tryz.prog (S5 w1 (w.heap.size + 1) (.string noB) (.string noB) (.string noB) (.int .i64 0) (.slice none 0 0)) = .ok _ (S5 w1 (w.heap.size + 1) (.string noB) (.string noB) (.string noB) (.int .i64 0) (.slice none 0 0))
    generalize S5 w1 (w.heap.size + 1) (.string noB) (.string noB) (.string noB) (.int .i64 0) (.slice none 0 0) = W at c0 c1 c2 c3 c4 ⊢
    simp [results, Tryz.results175, go_sem, c0, c1, c2, c3, c4, airZ]
  · rw [h1] at CC
    have HR : Hid (findC l s = some a) := Lib.hid h3
    have i1 : (0 : Int) ≤ (k : Int) := by omega
    have i2 : (k : Int) < (l.length : Int) := by omega
    obtain ⟨b, o, a', rfl, hgl, hka, ha⟩ := hL5.at h4
    rw [h2] at hka
    obtain rfl := Option.some.inj hka
    have hlen := hs a (List.mem_of_getElem? h2)
    obtain ⟨a0, a1, a2, a3, a4, ash⟩ := ha
    have g0 := bel_get a0
    have g1 := bel_get a1
    have g2 := bel_get a2
    have g3 := bel_get a3
    have g4 := bel_get a4
    have HSH : Hid (∀ W, SW w5 W → ShL W a.A a.shs) := Lib.hid (fun W hW => ash.more hW)
    have KC := Lib.hid (fun W (h : ShL W a.A a.shs) => clone_any a.A a.c a.shs W hlen h)
    clear hL hL5 h1 h2 h3 a0 a1 a2 a3 a4 ash p0 p1
    go_wp2_with (first
      | (go_at_call 225; with_reducible refine (CC.out _ hS).mono ?_; rintro e w1 ⟨rfl, hS⟩; have x0 := f0 _ hS; have x1 := f1 _ hS; have y0 := g0 _ hS; have y1 := g1 _ hS; have y2 := g2 _ hS; have y3 := g3 _ hS; have y4 := g4 _ hS)
      | (go_at_call 226; refine (KC.out _ ((HSH.out _ hS).more (bel_alloc _ _))).mono ?_; rintro e w7 ⟨A', c', rfl, hsh7, hb7, hA7⟩; refine Hid.out ?_))
    have hbM := bel_alloc w1 (.cells #[.string a.code, .string a.city, .string a.land, .int .i64 a.off, .slice a.A a.shs.length a.c] airT)
    have hM := heap_alloc_new w1 (.cells #[.string a.code, .string a.city, .string a.land, .int .i64 a.off, .slice a.A a.shs.length a.c] airT)
    have hMl : w1.heap.size < (w1.alloc (.cells #[.string a.code, .string a.city, .string a.land, .int .i64 a.off, .slice a.A a.shs.length a.c] airT)).heap.size := by simp
    have hM7 := (hb7.block _ hMl).trans hM
    have hNM : w.heap.size + 1 ≠ w1.heap.size := by have := hS.size; omega
    have hN7 := ((hb7.block _ (Nat.lt_of_lt_of_le (Nat.lt_of_lt_of_le hNl hS.size) hbM.size)).trans (hbM.block _ (Nat.lt_of_lt_of_le hNl hS.size))).trans ((hS.block _ hNl).trans hN)
    have hb8 := But.setCell w7 w1.heap.size 4 (.slice A' a.shs.length c')
    have hM8 := heap_setCell_same w7 w1.heap.size 4 _ airT (.slice A' a.shs.length c') hM7
    have hN8 := (hb8.block (w.heap.size + 1) (Array.getElem?_eq_some_iff.1 hN7).1 hNM).trans hN7
    have hMl7 : w1.heap.size < w7.heap.size := (Array.getElem?_eq_some_iff.1 hM7).1
    have m4 := (cell_of_row w7 _ 4 _ _ (0, 0) hM7).trans rfl
    have mz := frozen_of_row w7 _ 4 _ _ hM7
    have u0 := (cell_of_row _ _ 0 _ _ (0, 0) hM8).trans (show _ = some _ from rfl)
    have u1 := (cell_of_row _ _ 1 _ _ (0, 0) hM8).trans (show _ = some _ from rfl)
    have u2 := (cell_of_row _ _ 2 _ _ (0, 0) hM8).trans (show _ = some _ from rfl)
    have u3 := (cell_of_row _ _ 3 _ _ (0, 0) hM8).trans (show _ = some _ from rfl)
    have u4 := (cell_of_row _ _ 4 _ _ (0, 0) hM8).trans (show _ = some _ from rfl)
    have v0 := (cell_of_row _ _ 0 _ _ (0, 0) hN8).trans (show _ = some _ from rfl)
    have t0 := frozen_of_row _ _ 0 _ _ hN8
    have v1 := (cell_of_row _ _ 1 _ _ (0, 0) hN8).trans (show _ = some _ from rfl)
    have t1 := frozen_of_row _ _ 1 _ _ hN8
    have v2 := (cell_of_row _ _ 2 _ _ (0, 0) hN8).trans (show _ = some _ from rfl)
    have t2 := frozen_of_row _ _ 2 _ _ hN8
    have v3 := (cell_of_row _ _ 3 _ _ (0, 0) hN8).trans (show _ = some _ from rfl)
    have t3 := frozen_of_row _ _ 3 _ _ hN8
    have v4 := (cell_of_row _ _ 4 _ _ (0, 0) hN8).trans (show _ = some _ from rfl)
    have t4 := frozen_of_row _ _ 4 _ _ hN8
    have hx := S5.heap hN8 (.string a.code) (.string a.city) (.string a.land) (.int .i64 a.off) (.slice A' a.shs.length c')
    have hbt := S5.but (w7.setCell ⟨w1.heap.size, 4, none⟩ (.slice A' a.shs.length c')) (w.heap.size + 1) (.string a.code) (.string a.city) (.string a.land) (.int .i64 a.off) (.slice A' a.shs.length c')
    have hbx : Below w.heap.size w w7 := (hb0.trans (Below.mono hS hb0.size)).trans ((hbM.trans (Below.mono hb7 hbM.size)).mono (Nat.le_trans hb0.size hS.size))
    have hall := (hb8.weak (Y := fun k => k = w1.heap.size ∨ k = w.heap.size + 1) (fun _ h => .inl h)).trans hbt (fun _ _ h => .inr h)
    have c0 := (cell_of_row _ _ 0 _ _ (0, 0) hx).trans (show _ = some _ from rfl)
    have c1 := (cell_of_row _ _ 1 _ _ (0, 0) hx).trans (show _ = some _ from rfl)
    have c2 := (cell_of_row _ _ 2 _ _ (0, 0) hx).trans (show _ = some _ from rfl)
    have c3 := (cell_of_row _ _ 3 _ _ (0, 0) hx).trans (show _ = some _ from rfl)
    have c4 := (cell_of_row _ _ 4 _ _ (0, 0) hx).trans (show _ = some _ from rfl)
    have hs1 := hS.size
    have hbw : Below w.heap.size w (S5 (w7.setCell ⟨w1.heap.size, 4, none⟩ (.slice A' a.shs.length c')) (w.heap.size + 1) (.string a.code) (.string a.city) (.string a.land) (.int .i64 a.off) (.slice A' a.shs.length c')) := hbx.trans (hall.below hbx.size (fun k hk => by have := hb0.size; omega))
    have hshx : ShL (S5 (w7.setCell ⟨w1.heap.size, 4, none⟩ (.slice A' a.shs.length c')) (w.heap.size + 1) (.string a.code) (.string a.city) (.string a.land) (.int .i64 a.off) (.slice A' a.shs.length c')) A' a.shs := hsh7.but hall (by
      rcases hA7 with h | ⟨g, h, hg⟩
      · exact .inl h
      · exact .inr ⟨g, h, by simp only [World.size_alloc] at hg; omega⟩)
    have hfr : A' = none ∨ ∃ g, A' = some ⟨g, 0, none⟩ ∧ w.heap.size ≤ g := by
      rcases hA7 with h | ⟨g, h, hg⟩
      · exact .inl h
      · refine .inr ⟨g, h, ?_⟩
        have := hb0.size
        simp only [World.size_alloc] at hg
        omega
    clear hsh7 hA7 hall hbx hb8
    refine Lib.hid ?_
    go_wp2
    refine bodyPost_ret (v := .tuple #[encA { a with A := A', c := c' }, .bool true]) ?_ rfl ⟨hbw, by rw [HR.out]; exact ⟨A', c', rfl, hshx, hfr⟩⟩
    change (results _ _).run Tryz.prog (S5 (w7.setCell ⟨w1.heap.size, 4, none⟩ (.slice A' a.shs.length c')) (w.heap.size + 1) (.string a.code) (.string a.city) (.string a.land) (.int .i64 a.off) (.slice A' a.shs.length c')) = .ok _ (S5 (w7.setCell ⟨w1.heap.size, 4, none⟩ (.slice A' a.shs.length c')) (w.heap.size + 1) (.string a.code) (.string a.city) (.string a.land) (.int .i64 a.off) (.slice A' a.shs.length c'))
    generalize S5 (w7.setCell ⟨w1.heap.size, 4, none⟩ (.slice A' a.shs.length c')) (w.heap.size + 1) (.string a.code) (.string a.city) (.string a.land) (.int .i64 a.off) (.slice A' a.shs.length c') = W at c0 c1 c2 c3 c4 ⊢
    simp [results, Tryz.results175, go_sem, c0, c1, c2, c3, c4]

end Go.Proofs.YtldillnjnjkkgaaGreatDoor

/- Walks of sort.Search, of the closures that it calls, and of the functions of package zone. -/
namespace Go.Proofs.YtldillnjnjkkgaaGreatDoor.Zon
open Go.RowKit
set_option linter.unusedSimpArgs false
set_option linter.unusedVariables false

theorem OkA {o : Int} {l : Shs} (h : OkZ o l) (k : Nat) (hk : k < l.length) : 0 ≤ shA l k ∧ shA l k < 52596000 := h.at' k hk

set_option maxHeartbeats 2000000 in
theorem before_any (o : Int) (A : Option Addr) (c : Nat) (l : Shs) (k : Nat) (w : World) (hl : l.length ≤ 256) (hk : k ≤ l.length) (hL : ShL w A l) :
    Calls Tryz.prog 229 #[encZ o A l.length c, .int .i64 k] w fun e w' => e = .returned (.int .i64 (shB o l k)) ∧ Below w.heap.size w w' := by
  by_cases h0 : k = 0
  · subst h0
    go_enter Tryz.func229, Tryz.ntmps229
    go_wp2
    go_ret
    exact ⟨rfl, bel_alloc _ _⟩
  · obtain ⟨m, rfl⟩ : ∃ m, k = m + 1 := ⟨k - 1, by omega⟩
    obtain ⟨g, off, rfl, hgl, hcc⟩ := hL.at (k := m) (by omega)
    obtain ⟨g0, g1⟩ := hcc m (by omega)
    have z1 : (((m + 1 : Nat) : Int) == 0) = false := by rw [beq_eq_false_iff_ne]; omega
    have z2 : ((m + 1 : Nat) : Int) - 1 = (m : Int) := by omega
    have i1 : (m : Int) < (l.length : Int) := by omega
    rw [shB_succ]
    generalize ((m + 1 : Nat) : Int) = y at *
    have hy : -9223372036854775808 ≤ y - 1 ∧ y - 1 ≤ 9223372036854775807 := by omega
    clear hcc h0
    go_enter Tryz.func229, Tryz.ntmps229
    go_wp2
    go_ret
    exact ⟨rfl, bel_alloc _ _⟩

set_option maxHeartbeats 4000000 in
set_option maxRecDepth 100000 in
theorem search_any (g : Nat) (cb : Array Value) (n : Nat) (p : Nat → Bool) (w : World) (eg : ∀ args w, (callFunc g args).run Tryz.prog w = .ok (.enter g args) w) (hsz : n < 4611686018427387904)
    (hf : ∀ (i : Nat) (W : World), i < n → Below w.heap.size w W → Calls Tryz.prog g (#[.int .i64 i] ++ cb) W fun e w' => e = .returned (.bool (p i)) ∧ Below W.heap.size W w')
    (hmono : ∀ a b, a ≤ b → b < n → p a = true → p b = true) :
    Calls Tryz.prog 227 #[.int .i64 n, .func (.func g) #[] cb] w fun e w' => e = .returned (.int .i64 (fstP p n 0 : Nat)) ∧ Below w.heap.size w w' := by
  have HF := Lib.hid hf
  have M := Lib.hid hmono
  have CN : Hid (∀ c, c ≤ n → (∀ t, t < c → p t = false) → (∀ t, c ≤ t → t < n → p t = true) → fstP p n 0 = c) := Lib.hid (fun c h1 h2 h3 => fstP_is p c n n 0 (Nat.zero_le _) (by omega) h1 h2 h3)
  clear hf hmono
  generalize fstP p n 0 = r at *
  go_enter Tryz.func227, Tryz.ntmps227
  go_wp2
  go_loopg [5, 6] n (fun kx s5 s6 wr => ∃ (lo hi : Nat), s5 = .int .i64 lo ∧ s6 = .int .i64 hi ∧ lo ≤ hi ∧ hi ≤ n ∧ hi - lo ≤ kx ∧ Below w.heap.size w wr ∧
    Hid ((∀ t, t < lo → p t = false) ∧ (∀ t, hi ≤ t → t < n → p t = true)))
  case atStart => exact ⟨0, n, rfl, rfl, Nat.zero_le _, Nat.le_refl _, by omega, Below.refl _ _, Lib.hid ⟨fun t ht => absurd ht (Nat.not_lt_zero _), fun t h1 h2 => by omega⟩⟩
  case round =>
    obtain ⟨lo, hi, rfl, rfl, hlh, hin, hg, hb, I⟩ := hrel
    by_cases hlt : lo < hi
    · have hc := HF.out ((lo + hi) / 2) wr (by omega) hb
      rw [show (((lo + hi) / 2 : Nat) : Int) = ((lo : Int) + (hi : Int)) / 2 by omega] at hc
      cases hp : p ((lo + hi) / 2) <;> rw [hp] at hc
      · have HP := Lib.hid hp
        clear hp
        go_wp2_with (refine hc.mono ?_; rintro e w' ⟨rfl, hb'⟩)
        go_roundg (hi - ((lo + hi) / 2 + 1))
        case measure => omega
        case rel =>
          refine ⟨(lo + hi) / 2 + 1, hi, by rw [show ((lo : Int) + (hi : Int)) / 2 + 1 = (((lo + hi) / 2 + 1 : Nat) : Int) by omega], rfl, by omega, hin, Nat.le_refl _, hb.trans (hb'.mono hb.size), Lib.hid ⟨fun t ht => ?_, I.out.2⟩⟩
          cases h : p t with
          | false => rfl
          | true => have := M.out t ((lo + hi) / 2) (by omega) (by omega) h; rw [HP.out] at this; cases this
      · have HP := Lib.hid hp
        clear hp
        go_wp2_with (refine hc.mono ?_; rintro e w' ⟨rfl, hb'⟩)
        go_roundg ((lo + hi) / 2 - lo)
        case measure => omega
        case rel =>
          exact ⟨lo, (lo + hi) / 2, rfl, by rw [show ((lo : Int) + (hi : Int)) / 2 = (((lo + hi) / 2 : Nat) : Int) by omega], by omega, by omega, Nat.le_refl _, hb.trans (hb'.mono hb.size), Lib.hid ⟨I.out.1, fun t ht htn => M.out ((lo + hi) / 2) t ht htn HP.out⟩⟩
    · obtain rfl : hi = lo := by omega
      have hr := Lib.hid (CN.out hi hin I.out.1 I.out.2)
      go_wp2
      go_ret
      exact ⟨by rw [hr.out]; rfl, hb⟩

end Go.Proofs.YtldillnjnjkkgaaGreatDoor.Zon

/- Walks of the closures, of Offset, Local, UTC, last, Exists and Twice. -/
namespace Go.Proofs.YtldillnjnjkkgaaGreatDoor.Zon
open Go.RowKit Go.Shelf
set_option linter.unusedSimpArgs false
set_option linter.unusedVariables false

set_option maxHeartbeats 2000000 in
theorem utcc_any (o : Int) (A : Option Addr) (c : Nat) (l : Shs) (u : Int) (B : Nat) (i : Nat) (W : World) (ok : OkZ o l) (hi : i < l.length) (z0 : W.cell? ⟨B, 0, none⟩ = some (.int .i64 o)) (z1 : W.cell? ⟨B, 1, none⟩ = some (.slice A l.length c)) (zu : W.cell? ⟨B + 1, 0, none⟩ = some (.int .i64 u)) (hL : ShL W A l) :
    Calls Tryz.prog 228 #[.int .i64 i, .pointer (some ⟨B, 0, none⟩), .pointer (some ⟨B + 1, 0, none⟩)] W fun e w' => e = .returned (.bool (decide (u < shA l i + shB o l i))) ∧ Below W.heap.size W w' := by
  have KB := Lib.hid (SW.call (w5 := W) (fun W' hW => before_any o A c l i W' ok.len (by omega) (hL.more hW)))
  obtain ⟨g, off, rfl, hgl, hcc⟩ := hL.at hi
  obtain ⟨g0, g1⟩ := hcc i hi
  have i1 : (i : Int) < (l.length : Int) := by omega
  have hl := ok.len
  have b1 := ok.at' i hi
  have b2 := ok.before i (by omega)
  have q0 := SW.cell z0
  have q1 := SW.cell z1
  have q2 := SW.cell zu
  have q3 := SW.cell g0
  clear hcc hL ok
  generalize shA l i = a at *
  generalize shB o l i = b at *
  go_enter Tryz.func228, Tryz.ntmps228
  go_wp2
  have hNe : Nonempty (Wd (SW W)) := ⟨⟨_, SW.drew _⟩⟩
  refine quietS (S := SW W) (by kernel_rfl) (by kernel_rfl) (SW.drew _) ?_
  repeat (first | go_big_quiet_skip | (go_big_quiet_want; go_big_quiet_op; first | go_big_quiet_on | go_big_quiet_call (((go_at_call 229; (with_reducible exact quiet_S (KB.out _ (Wd.ok _))))))))
  refine wpQuiet_nil ?_
  rintro W ⟨⟨_, hW⟩, rfl⟩
  go_wp2
  go_ret
  exact ⟨rfl, hW⟩
theorem eg_utc : ∀ args w, (callFunc 228 args).run Tryz.prog w = .ok (.enter 228 args) w := enters_of Tryz.func228 (by kernel_rfl) rfl
/-- the two boxes that a function with a closure makes: the zone's and the minute's -/
def Z2 (w : World) (o : Int) (A : Option Addr) (n c : Nat) (u : Int) : World := (w.alloc (.cells #[.int .i64 o, .slice A n c] zoneT)).alloc (.cells #[.int .i64 u] 3)
theorem Z2.bel (w : World) (o : Int) (A : Option Addr) (n c : Nat) (u : Int) : Below w.heap.size w (Z2 w o A n c u) := (bel_alloc _ _).alloc (by simp) _
theorem Z2.z0 (w : World) (o : Int) (A : Option Addr) (n c : Nat) (u : Int) : (Z2 w o A n c u).cell? ⟨w.heap.size, 0, none⟩ = some (.int .i64 o) :=
  (Below.cell (bel_alloc _ _) (by simp)).trans (cells_new w #[.int .i64 o, .slice A n c] zoneT 0)
theorem Z2.z1 (w : World) (o : Int) (A : Option Addr) (n c : Nat) (u : Int) : (Z2 w o A n c u).cell? ⟨w.heap.size, 1, none⟩ = some (.slice A n c) :=
  (Below.cell (bel_alloc _ _) (by simp)).trans (cells_new w #[.int .i64 o, .slice A n c] zoneT 1)
theorem Z2.zu (w : World) (o : Int) (A : Option Addr) (n c : Nat) (u : Int) : (Z2 w o A n c u).cell? ⟨w.heap.size + 1, 0, none⟩ = some (.int .i64 u) := by
  have h := cells_new (w.alloc (.cells #[.int .i64 o, .slice A n c] zoneT)) #[.int .i64 u] 3 0
  rw [World.size_alloc] at h
  exact h
theorem bel_cell {w w' : World} {a : Addr} {v : Value} (h : Below w.heap.size w w') (hc : w.cell? a = some v) : w'.cell? a = some v := (h.cell (World.block_lt_of_cell? _ _ hc)).trans hc

set_option maxRecDepth 100000 in
set_option maxHeartbeats 2000000 in
theorem utc_any (o : Int) (A : Option Addr) (c : Nat) (l : Shs) (u : Int) (w : World) (ok : OkZ o l) (hL : ShL w A l) (hu : -1099511627776 ≤ u ∧ u ≤ 1099511627776) :
    Calls Tryz.prog 176 #[encZ o A l.length c, .int .i64 u] w fun e w' => e = .returned (.int .i64 (utcZ o l u)) ∧ Below w.heap.size w w' := by
  have hb0 := Z2.bel w o A l.length c u
  have z0 := Z2.z0 w o A l.length c u
  have z1 := Z2.z1 w o A l.length c u
  have zu := Z2.zu w o A l.length c u
  have CS := Lib.hid (search_any 228 #[.pointer (some ⟨w.heap.size, 0, none⟩), .pointer (some ⟨w.heap.size + 1, 0, none⟩)] l.length (fun i => decide (u < shA l i + shB o l i)) (Z2 w o A l.length c u) eg_utc (by have := ok.len; omega)
    (fun i W hi hW => utcc_any o A c l u w.heap.size i W ok hi (bel_cell hW z0) (bel_cell hW z1) (bel_cell hW zu) ((hL.more hb0).more hW)) (utc_mono ok u))
  rw [show fstP (fun i => decide (u < shA l i + shB o l i)) l.length 0 = utcN o l u from rfl] at CS
  have hle := (utcN_spec ok u).1
  have CB := Lib.hid (fun W (hW : Below (Z2 w o A l.length c u).heap.size (Z2 w o A l.length c u) W) => before_any o A c l (utcN o l u) W ok.len hle ((hL.more hb0).more hW))
  have hr := ok.before _ hle
  have HR : Hid (utcZ o l u = if utcN o l u = 0 then u - shB o l (utcN o l u) else max (u - shB o l (utcN o l u)) (shA l (utcN o l u - 1))) := Lib.hid rfl
  have hl := ok.len
  generalize hk : utcN o l u = k at *
  clear hk
  have hA : 0 < k → ∃ g off, A = some ⟨g, off, none⟩ ∧ (Z2 w o A l.length c u).cell? ⟨g, off + (k - 1) * 2, none⟩ = some (.int .i64 (shA l (k - 1))) ∧ 0 ≤ shA l (k - 1) ∧ shA l (k - 1) < 52596000 := fun h => by
    obtain ⟨g, off, rfl, hgl, hcc⟩ := (hL.more hb0).at (k := k - 1) (by omega)
    exact ⟨g, off, rfl, (hcc (k - 1) (by omega)).1, ok.at' (k - 1) (by omega)⟩
  generalize shB o l k = r at *
  clear hL ok
  unfold Z2 at *
  by_cases h0 : k = 0
  · rw [if_pos h0] at HR
    have hk0 : ¬ (0 : Int) < (k : Int) := by omega
    clear h0 hA
    go_enter Tryz.func176, Tryz.ntmps176
    go_wp2_with (go_at_call 227; refine CS.out.mono ?_; rintro e w1 ⟨rfl, hb1⟩; have y0 := SW.cell (bel_cell hb1 z0); have y1 := SW.cell (bel_cell hb1 z1); have yu := SW.cell (bel_cell hb1 zu); have KB := Lib.hid (SW.call (w5 := w1) (fun W hW => CB.out W (hb1.trans (hW.mono hb1.size)))))
    have hNe : Nonempty (Wd (SW w1)) := ⟨⟨_, SW.drew _⟩⟩
    refine quietS (S := SW w1) (by kernel_rfl) (by kernel_rfl) (SW.drew _) ?_
    repeat (first | go_big_quiet_skip | (go_big_quiet_want; go_big_quiet_op; first | go_big_quiet_on | go_big_quiet_call (((go_at_call 229; (with_reducible exact quiet_S (KB.out _ (Wd.ok _))))))))
    refine wpQuiet_nil ?_
    rintro W ⟨⟨_, hW⟩, rfl⟩
    go_wp2
    go_ret
    have h1 := hb0.trans (hb1.mono hb0.size)
    exact ⟨by rw [HR.out]; rfl, h1.trans (hW.mono h1.size)⟩
  · rw [if_neg h0] at HR
    obtain ⟨g, off, rfl, ga, ha⟩ := hA (by omega)
    have hk0 : (0 : Int) < (k : Int) := by omega
    have i4 : (0 : Int) ≤ (k : Int) - 1 := by omega
    have i5 : (k : Int) - 1 < (l.length : Int) := by omega
    have i6 : ((k : Int) - 1).toNat = k - 1 := by omega
    clear h0 hA
    generalize shA l (k - 1) = a at *
    go_enter Tryz.func176, Tryz.ntmps176
    go_wp2_with (go_at_call 227; refine CS.out.mono ?_; rintro e w1 ⟨rfl, hb1⟩; have y0 := SW.cell (bel_cell hb1 z0); have y1 := SW.cell (bel_cell hb1 z1); have yu := SW.cell (bel_cell hb1 zu); have ya := SW.cell (bel_cell hb1 ga); have KB := Lib.hid (SW.call (w5 := w1) (fun W hW => CB.out W (hb1.trans (hW.mono hb1.size)))))
    have hNe : Nonempty (Wd (SW w1)) := ⟨⟨_, SW.drew _⟩⟩
    refine quietS (S := SW w1) (by kernel_rfl) (by kernel_rfl) (SW.drew _) ?_
    repeat (first | go_big_quiet_skip | (go_big_quiet_want; go_big_quiet_op; first | go_big_quiet_on | go_big_quiet_call (((go_at_call 229; (with_reducible exact quiet_S (KB.out _ (Wd.ok _))))))))
    refine wpQuiet_nil ?_
    rintro W ⟨⟨_, hW⟩, rfl⟩
    have x1 := y1 ⟨_, hW⟩
    have x2 := ya ⟨_, hW⟩
    dsimp only at x1 x2
    go_wp2
    all_goals
      go_ret
      have h1 := hb0.trans (hb1.mono hb0.size)
      exact ⟨by rw [HR.out]; exact ret_int (by omega), h1.trans (hW.mono h1.size)⟩

end Go.Proofs.YtldillnjnjkkgaaGreatDoor.Zon

/- Walks of isNext, departure and arrival. -/
namespace Go.Proofs.YtldillnjnjkkgaaGreatDoor
open Go.RowKit Go.Shelf
set_option linter.unusedSimpArgs false
set_option linter.unusedVariables false

def badF (before : List Lg) (x : Lg) : Bool := match before.getLast? with
  | none => false
  | some y => !(x.f.toList == y.t.toList)
def nextB (before : List Lg) (x : Lg) : Bool := !badF before x && (!(x.t.toList == x.f.toList) && !(before.any fun b => b.f.toList == x.t.toList))
set_option maxHeartbeats 400000 in
theorem nextc_any (b x : Lg) (B : Nat) (W : World) (z : W.cell? ⟨B, 1, none⟩ = some (.string x.t)) :
    Calls Tryz.prog 186 #[encG b, .pointer (some ⟨B, 0, none⟩)] W fun e w' => e = .returned (.bool (b.f.toList == x.t.toList)) ∧ Below W.heap.size W w' := by
  have hlt := World.block_lt_of_cell? _ _ z
  have z' := (Below.cell (bel_alloc W (.cells #[.string b.f, .string b.t, .int .i64 b.dep, .int .i64 b.arr, .string b.eq] legT)) (p := ⟨B, 1, none⟩) hlt).trans z
  go_enter Tryz.func186, Tryz.ntmps186
  go_wp2
  go_ret
  exact ⟨rfl, bel_alloc _ _⟩
theorem eg_next : ∀ args w, (callFunc 186 args).run Tryz.prog w = .ok (.enter 186 args) w := enters_of Tryz.func186 (by kernel_rfl) rfl

set_option maxRecDepth 100000 in
set_option maxHeartbeats 4000000 in
theorem isNext_any (A : Option Addr) (c : Nat) (l : List Lg) (x : Lg) (w : World) (hl : l.length ≤ 1000) (hL : LegL w (.slice A l.length c) l) :
    Calls Tryz.prog 124 #[.slice A l.length c, encG x] w fun e w' => e = .returned (.bool (nextB l x)) ∧ Below w.heap.size w w' := by
  have hb0 := bel_alloc w (.cells #[.string x.f, .string x.t, .int .i64 x.dep, .int .i64 x.arr, .string x.eq] legT)
  have q0 := (cells_new w #[.string x.f, .string x.t, .int .i64 x.dep, .int .i64 x.arr, .string x.eq] legT 0).trans (show _ = some (.string x.f) from rfl)
  have q1 := (cells_new w #[.string x.f, .string x.t, .int .i64 x.dep, .int .i64 x.arr, .string x.eq] legT 1).trans (show _ = some (.string x.t) from rfl)
  have hL5 := hL.more hb0
  go_enter Tryz.func124, Tryz.ntmps124
  go_upto_region 1 with fail
  generalize hw5 : w.alloc (.cells #[.string x.f, .string x.t, .int .i64 x.dep, .int .i64 x.arr, .string x.eq] legT) = w5 at *
  clear hw5
  have f0 := SW.cell q0
  have f1 := SW.cell q1
  have HN : Hid (nextB l x = (!badF l x && (!(x.t.toList == x.f.toList) && !(l.any fun b => b.f.toList == x.t.toList)))) := Lib.hid rfl
  go_cut [19] from 5 (fun v wx => v = .bool (badF l x) ∧ SW w5 wx)
  case first =>
    by_cases h0 : l.length = 0
    · have hE : badF l x = false := by rw [List.eq_nil_of_length_eq_zero h0]; rfl
      have HE := Lib.hid hE
      have i0 : ¬ (0 : Int) < (l.length : Int) := by omega
      have hdec : decide (0 < l.length) = false := decide_eq_false (by omega)
      clear hE h0
      have hNe : Nonempty (Wd (SW w5)) := ⟨⟨_, SW.drew _⟩⟩
      refine quietS (S := SW w5) (by kernel_rfl) (by kernel_rfl) (SW.drew _) ?_
      repeat (first | go_big_quiet_skip | (go_big_quiet_want; go_big_quiet_op; first | go_big_quiet_on | go_big_quiet_call ((fail))))
      refine wpQuiet_nil ?_
      rintro W ⟨⟨_, hW⟩, rfl⟩
      go_wp2
      go_meet
      exact ⟨by rw [HE.out], hW⟩
    · obtain ⟨b, o, y, rfl, hbl, hy, c0, c1, c2, c3, c4⟩ := LegL.get hL5 (show l.length - 1 < l.length by omega)
      have hE : badF l x = !(x.f.toList == y.t.toList) := by
        unfold badF
        rw [List.getLast?_eq_getElem?, hy]
      have HE := Lib.hid hE
      have i0 : (0 : Int) < (l.length : Int) := by omega
      have hdec : decide (0 < l.length) = true := decide_eq_true (by omega)
      have i1 : ((l.length : Int) - 1) = ((l.length - 1 : Nat) : Int) := by omega
      have i2 : ((l.length - 1 : Nat) : Int) < (l.length : Int) := by omega
      have f2 := SW.cell c1
      clear hE h0 hy c0 c1 c2 c3 c4
      generalize l.length - 1 = last at *
      have hNe : Nonempty (Wd (SW w5)) := ⟨⟨_, SW.drew _⟩⟩
      refine quietS (S := SW w5) (by kernel_rfl) (by kernel_rfl) (SW.drew _) ?_
      repeat (first | go_big_quiet_skip | (go_big_quiet_want; go_big_quiet_op; first | go_big_quiet_on | go_big_quiet_call ((fail))))
      refine wpQuiet_nil ?_
      rintro W ⟨⟨_, hW⟩, rfl⟩
      go_wp2
      go_meet
      exact ⟨by rw [HE.out], hW⟩
  case rest =>
    obtain ⟨rfl, hS⟩ := hcut
    cases hbf : badF l x
    · rw [hbf] at HN
      have k0 := bel_get q0 _ hS
      have k1 := bel_get q1 _ hS
      cases hft : (x.t.toList == x.f.toList)
      · rw [hft] at HN
        have HC := Lib.hid (containsL_any 186 #[.pointer (some ⟨w.heap.size, 0, none⟩)] A c l (fun b => b.f.toList == x.t.toList) wc eg_next hl (hL5.more hS) (fun a W ha hW => nextc_any a x _ W (bel_cell hW k1)))
        generalize (l.any fun b => b.f.toList == x.t.toList) = an at *
        clear hL hL5
        go_wp2_with (go_at_call 185; refine HC.out.mono ?_; rintro e w' ⟨rfl, hb'⟩)
        go_ret
        exact ⟨ret_bool (by rw [HN.out]; simp), hb0.trans ((Below.trans hS (Below.mono hb' hS.size)).mono hb0.size)⟩
      · rw [hft] at HN
        go_wp2
        go_ret
        exact ⟨ret_bool (by rw [HN.out]; simp), hb0.trans (Below.mono hS hb0.size)⟩
    · rw [hbf] at HN
      go_wp2
      go_ret
      exact ⟨ret_bool (by rw [HN.out]; simp), hb0.trans (Below.mono hS hb0.size)⟩

end Go.Proofs.YtldillnjnjkkgaaGreatDoor

/- Walk of neighbours. -/
namespace Go.Proofs.YtldillnjnjkkgaaGreatDoor
open Go.RowKit Go.Shelf
set_option linter.unusedSimpArgs false
set_option linter.unusedVariables false

end Go.Proofs.YtldillnjnjkkgaaGreatDoor

/- Walk of checkAirports, whatever there is to report. -/
namespace Go.Proofs.YtldillnjnjkkgaaGreatDoor
open Go.RowKit Go.Shelf
set_option linter.unusedSimpArgs false
set_option linter.unusedVariables false

abbrev errT : TypeId := 33
theorem errs_new (w : World) (es : List Int) {cs : Array Value} (hcs : cs = (es.map (Value.int .i64)).toArray) : ∀ k (h : k < es.length), (w.alloc (.cells cs errT)).cell? ⟨w.heap.size, k, none⟩ = some (.int .i64 es[k]) := by
  intro k hk
  subst hcs
  rw [cells_new, List.getElem?_toArray, List.getElem?_map, List.getElem?_eq_getElem hk]
  rfl
theorem But.on {w w' w'' : World} {X : Nat → Prop} (h : But w w' X) (hb : Below w'.heap.size w' w'') : But w w'' X := h.trans (But.of_below (X := X) hb) (fun _ _ h => h)
/-- since w6 nothing has turned but v's own block -/
abbrev SX (w6 : World) (v : Value) (W : World) : Prop := But w6 W (fun k => v.ownBlock = some k)
theorem SX.cell {w6 W : World} {v : Value} {a : Addr} {x : Value} (hc : w6.cell? a = some x) (hne : v.ownBlock ≠ some a.block) (h : SX w6 v W) : W.cell? a = some x :=
  (World.cell?_of_block (h.block a.block (World.block_lt_of_cell? _ _ hc) hne)).trans hc
theorem SX.map {κ : Type} [DecidableEq κ] {P : Program} {k : TypeId} {en : κ → Value} {w6 W : World} {v : Value} {b n : Nat} {g : κ → Option Value} (hm : MapK P k en w6 b n g) (hne : v.ownBlock ≠ some b) (h : SX w6 v W) : MapK P k en W b n g := hm.same (h.block b hm.lt hne)
theorem ROwn.grown {α : Type} {enc : α → List Value} {e : TypeId} {sz B : Nat} {w w' : World} {v : Value} {l : List α} {row : Option Nat} (h : ROwn e sz enc B w v l) (hg : w.grownBy w' row) (hne : row ≠ v.ownBlock ∨ v.ownBlock = none) : ROwn e sz enc B w' v l :=
  ⟨h.own.kept hg (by
    rcases hne with h1 | h1
    · exact .inr (fun e => h1 e.symm)
    · exact .inl h1), Nat.le_trans h.base hg.size⟩
theorem itoa_nat (k : Nat) : Lib.itoa (k : Int) = Lib.decDigits k := by
  unfold Lib.itoa
  rw [if_neg (by omega)]
  simp
theorem decA_size (k : Nat) (h : k < 100) : (decA k).size ≤ 21 := by
  have := Lib.itoa_length_le (k : Int) (by omega) (by omega)
  show (Lib.itoa (k : Int)).toArray.size ≤ 21
  simpa using this
theorem dec_small (k : Nat) (h : k < 100) (w : World) : Calls Tryz.prog 56 #[.int .i64 (k : Int)] w fun e w' => e = .returned (.string (decA k)) ∧ w = w' := by
  have HC : Hid (∀ w, Calls Tryz.prog 75 #[.int .i64 (k : Int)] w fun e w' => e = .returned (.string (decA k)) ∧ w = w') := Lib.hid (fun w => by
    have h := Tryz.strconv_Itoa_small k h w
    rw [← itoa_nat] at h
    exact h.mono (by rintro e w' ⟨rfl, rfl⟩; exact ⟨rfl, rfl⟩))
  generalize decA k = s at *
  go_enter Tryz.func56, Tryz.ntmps56
  go_wp2_with (go_at_call 75; refine (HC.out _).mono ?_; rintro e w' ⟨rfl, rfl⟩)
  go_ret
  exact ⟨rfl, rfl⟩
theorem ShL.but' {w w' : World} {X : Nat → Prop} {A : Option Addr} {l : Shs} (h : ShL w A l) (hb : But w w' X) (hA : l = [] ∨ A = none ∨ ∃ g o, A = some ⟨g, o, none⟩ ∧ ¬ X g) : ShL w' A l := by
  rcases h with h | ⟨b, o, rfl, hlt, hc⟩
  · exact .inl h
  · rcases hA with h | h | ⟨g, o', e, hx⟩
    · exact .inl h
    · cases h
    · cases e
      exact .inr ⟨b, o, rfl, Nat.lt_of_lt_of_le hlt hb.size, fun i hi => ⟨(World.cell?_of_block (a := ⟨b, o + i * 2, none⟩) (hb.block b hlt hx)).trans (hc i hi).1, (World.cell?_of_block (a := ⟨b, o + i * 2 + 1, none⟩) (hb.block b hlt hx)).trans (hc i hi).2⟩⟩
theorem ShL.below {w w' : World} {lo : Nat} {A : Option Addr} {l : Shs} (h : ShL w A l) (hb : Below w.heap.size w w') : ShL w' A l := h.more hb

end Go.Proofs.YtldillnjnjkkgaaGreatDoor

/- Words for legs with their zones; walks of departure, arrival, findNonstops, isOrdered. -/
namespace Go.Proofs.YtldillnjnjkkgaaGreatDoor
open Go.RowKit Go.Shelf
set_option linter.unusedSimpArgs false
set_option linter.unusedVariables false

/-- a leg with the zones of its airports -/
structure NS where
  x : Lg
  fo : Int
  fA : Option Addr
  fc : Nat
  fs : Shs
  ti : Int
  tA : Option Addr
  tc : Nat
  ts : Shs
abbrev nonT : TypeId := 135
def encNS (n : NS) : List Value := [.string n.x.f, .string n.x.t, .int .i64 n.x.dep, .int .i64 n.x.arr, .string n.x.eq, .int .i64 n.fo, .slice n.fA n.fs.length n.fc, .int .i64 n.ti, .slice n.tA n.ts.length n.tc]
abbrev encN (n : NS) : Value := .agg #[.string n.x.f, .string n.x.t, .int .i64 n.x.dep, .int .i64 n.x.arr, .string n.x.eq, .int .i64 n.fo, .slice n.fA n.fs.length n.fc, .int .i64 n.ti, .slice n.tA n.ts.length n.tc]
theorem rtN : RT Tryz.prog 132 nonT 9 encNS where
  ht := Tryz.underlying132
  info := ⟨.agg #[.string noB, .string noB, .int .i64 0, .int .i64 0, .string noB, .int .i64 0, .slice none 0 0, .int .i64 0, .slice none 0 0], 128, by kernel_rfl, rfl, by omega⟩
  len x := rfl
  one x u hu := by simp [encNS] at hu; rcases hu with rfl | rfl | rfl | rfl | rfl | rfl | rfl | rfl | rfl <;> rfl
  pos := by omega

set_option maxRecDepth 100000 in
set_option maxHeartbeats 2000000 in
theorem departure_any (n : NS) (day : Int) (w : World) (ok : OkZ n.fo n.fs) (hL : ShL w n.fA n.fs) (hd : -100000000 ≤ day ∧ day ≤ 100000000) (hm : -1000000 ≤ n.x.dep ∧ n.x.dep ≤ 1000000) :
    Calls Tryz.prog 96 #[encN n, .int .i64 day] w fun e w' => e = .returned (.int .i64 (utcZ n.fo n.fs (day * 1440 + n.x.dep))) ∧ Below w.heap.size w w' := by
  have hb0 := bel_alloc w (.cells (encNS n).toArray nonT)
  have HU := Lib.hid (Zon.utc_any n.fo n.fA n.fc n.fs (day * 1440 + n.x.dep) _ ok (hL.more hb0) (by omega))
  generalize utcZ n.fo n.fs (day * 1440 + n.x.dep) = r at *
  clear ok hL
  unfold encNS at *
  go_enter Tryz.func96, Tryz.ntmps96
  go_wp2_with (go_at_call 176; refine HU.out.mono ?_; rintro e w' ⟨rfl, hb'⟩)
  go_ret
  exact ⟨rfl, hb0.trans (Below.mono hb' hb0.size)⟩
set_option maxRecDepth 100000 in
set_option maxHeartbeats 2000000 in
theorem arrival_any (n : NS) (day : Int) (w : World) (ok : OkZ n.ti n.ts) (hL : ShL w n.tA n.ts) (hd : -100000000 ≤ day ∧ day ≤ 100000000) (hm : -1000000 ≤ n.x.arr ∧ n.x.arr ≤ 1000000) :
    Calls Tryz.prog 97 #[encN n, .int .i64 day] w fun e w' => e = .returned (.int .i64 (utcZ n.ti n.ts (day * 1440 + n.x.arr))) ∧ Below w.heap.size w w' := by
  have hb0 := bel_alloc w (.cells (encNS n).toArray nonT)
  have HU := Lib.hid (Zon.utc_any n.ti n.tA n.tc n.ts (day * 1440 + n.x.arr) _ ok (hL.more hb0) (by omega))
  generalize utcZ n.ti n.ts (day * 1440 + n.x.arr) = r at *
  clear ok hL
  unfold encNS at *
  go_enter Tryz.func97, Tryz.ntmps97
  go_wp2_with (go_at_call 176; refine HU.out.mono ?_; rintro e w' ⟨rfl, hb'⟩)
  go_ret
  exact ⟨rfl, hb0.trans (Below.mono hb' hb0.size)⟩

/-- the airport with a code, or the zero airport -/
def airOf (l : List Air) (s : ByteArray) : Air := (findC l s).getD airZ
/-- shifts that lie in memory of one's own, off the row v -/
def ShO (w : World) (v : Value) (A : Option Addr) (l : Shs) : Prop := ShL w A l ∧ (l = [] ∨ A = none ∨ ∃ g, A = some ⟨g, 0, none⟩ ∧ g < w.heap.size ∧ v.ownBlock ≠ some g)
/-- n is the leg x with its zones -/
structure NsOf (w : World) (v : Value) (l : List Air) (x : Lg) (n : NS) : Prop where
  ex : n.x = x
  fo : n.fo = (airOf l x.f).off
  fs : n.fs = (airOf l x.f).shs
  ti : n.ti = (airOf l x.t).off
  ts : n.ts = (airOf l x.t).shs
  shf : ShO w v n.fA n.fs
  sht : ShO w v n.tA n.ts
theorem ShO.more {w w' : World} {v : Value} {A : Option Addr} {l : Shs} (h : ShO w v A l) (hb : Below w.heap.size w w') : ShO w' v A l :=
  ⟨h.1.more hb, h.2.imp id fun h => h.imp id fun ⟨g, h1, h2, h3⟩ => ⟨g, h1, Nat.lt_of_lt_of_le h2 hb.size, h3⟩⟩
theorem NsOf.more {w w' : World} {v : Value} {l : List Air} {x : Lg} {n : NS} (h : NsOf w v l x n) (hb : Below w.heap.size w w') : NsOf w' v l x n := ⟨h.ex, h.fo, h.fs, h.ti, h.ts, h.shf.more hb, h.sht.more hb⟩
theorem ShO.chg {w w' : World} {v v' : Value} {A : Option Addr} {l : Shs} (h : ShO w v A l) (hc : Chg w w' v v') : ShO w' v' A l := by
  refine ⟨h.1.but' hc.but (h.2.imp id fun h => h.imp id fun ⟨g, h1, h2, h3⟩ => ⟨g, 0, h1, h3⟩), h.2.imp id fun h => h.imp id fun ⟨g, h1, h2, h3⟩ => ⟨g, h1, Nat.lt_of_lt_of_le h2 hc.but.size, fun e => ?_⟩⟩
  rcases hc.own g e with h4 | h4
  · exact h3 h4
  · omega
theorem NsOf.chg {w w' : World} {v v' : Value} {l : List Air} {x : Lg} {n : NS} (h : NsOf w v l x n) (hc : Chg w w' v v') : NsOf w' v' l x n := ⟨h.ex, h.fo, h.fs, h.ti, h.ts, h.shf.chg hc, h.sht.chg hc⟩

set_option maxRecDepth 100000 in
set_option maxHeartbeats 8000000 in
theorem nonstops_any (p : PV) (A : Option Addr) (c : Nat) (lg : List Lg) (w : World) (hl : p.l.length ≤ 40) (hL : AirL w p.A p.l) (hs : ∀ a ∈ p.l, a.shs.length ≤ 300) (hG : LegL w (.slice A lg.length c) lg) (hn : lg.length ≤ 100) :
    Calls Tryz.prog 95 #[encP p, .slice A lg.length c] w fun e w' => ∃ v' L, e = .returned v' ∧ ROwn nonT 9 encNS w.heap.size w' v' L ∧ L.length = lg.length ∧ (∀ (k : Nat) (x : Lg) (n : NS), lg[k]? = some x → L[k]? = some n → NsOf w' v' p.l x n) ∧ Below w.heap.size w w' := by
  have hb0 := bel_alloc w (.cells #[.slice p.A p.l.length p.ca, .slice p.D p.ds.length p.cd] placesT)
  have q0 := (cells_new w #[.slice p.A p.l.length p.ca, .slice p.D p.ds.length p.cd] placesT 0).trans (show _ = some (.slice p.A p.l.length p.ca) from rfl)
  have q1 := (cells_new w #[.slice p.A p.l.length p.ca, .slice p.D p.ds.length p.cd] placesT 1).trans (show _ = some (.slice p.D p.ds.length p.cd) from rfl)
  have hL5 := hL.more hb0
  have hG5 := hG.more hb0
  go_enter Tryz.func95, Tryz.ntmps95
  go_wp2
  generalize hw5 : w.alloc (.cells #[.slice p.A p.l.length p.ca, .slice p.D p.ds.length p.cd] placesT) = w5 at *
  clear hw5
  have y0 := bel_get q0
  have y1 := bel_get q1
  have KF : Hid (∀ s W, SW w5 W → Calls Tryz.prog 175 #[.agg #[.slice p.A p.l.length p.ca, .slice p.D p.ds.length p.cd], .string s] W fun e w' => Below W.heap.size W w' ∧ FindF W.heap.size (airOf p.l s) (findC p.l s).isSome e w') := Lib.hid (fun s W hW => find2_any p s W hl (hL5.more hW) hs)
  have HN : Hid (ROwn nonT 9 encNS w5.heap.size w5 (.slice none 0 0) []) := Lib.hid (ROwn.nil (Nat.le_refl _))
  clear hL hL5 hs
  go_loopg [5, 14] lg.length (fun kx v5 vi wr => ∃ (v : Value) (k : Nat) (L : List NS), v = v5 ∧ vi = .int .i64 k ∧ k + kx = lg.length ∧ Hid (ROwn nonT 9 encNS w5.heap.size wr v L ∧ L.length = k ∧ (∀ (k : Nat) (x : Lg) (n : NS), lg[k]? = some x → L[k]? = some n → NsOf wr v p.l x n) ∧ SW w5 wr))
  case atStart => exact ⟨_, 0, [], rfl, rfl, by omega, Lib.hid ⟨HN.out, rfl, fun k x n _ h => by simp at h, Below.refl _ _⟩⟩
  case round =>
    obtain ⟨v, k, L, rfl, rfl, hkx, HH⟩ := hrel
    clear HN
    have HKX := Lib.hid hkx
    have hSr : SW w5 wr := HH.out.2.2.2
    by_cases hlt : k < lg.length
    · clear hkx
      obtain ⟨b, o, x, rfl, hbl, hx, c0, c1, c2, c3, c4⟩ := LegL.get (hG5.more hSr) hlt
      have HX := Lib.hid hx
      have i2 : (k : Int) < (lg.length : Int) := by omega
      have hbx := bel_alloc wr (.cells #[.string x.f, .string x.t, .int .i64 x.dep, .int .i64 x.arr, .string x.eq] legT)
      have hSx : SW w5 (wr.alloc (.cells #[.string x.f, .string x.t, .int .i64 x.dep, .int .i64 x.arr, .string x.eq] legT)) := Below.alloc hSr hSr.size _
      have l0 := (cells_new wr #[.string x.f, .string x.t, .int .i64 x.dep, .int .i64 x.arr, .string x.eq] legT 0).trans (show _ = some (.string x.f) from rfl)
      have l1 := (cells_new wr #[.string x.f, .string x.t, .int .i64 x.dep, .int .i64 x.arr, .string x.eq] legT 1).trans (show _ = some (.string x.t) from rfl)
      have l2 := (cells_new wr #[.string x.f, .string x.t, .int .i64 x.dep, .int .i64 x.arr, .string x.eq] legT 2).trans (show _ = some (.int .i64 x.dep) from rfl)
      have l3 := (cells_new wr #[.string x.f, .string x.t, .int .i64 x.dep, .int .i64 x.arr, .string x.eq] legT 3).trans (show _ = some (.int .i64 x.arr) from rfl)
      have l4 := (cells_new wr #[.string x.f, .string x.t, .int .i64 x.dep, .int .i64 x.arr, .string x.eq] legT 4).trans (show _ = some (.string x.eq) from rfl)
      have z0 := y0 _ hSx
      have z1 := y1 _ hSx
      have HLn : Hid (L.length ≤ 100000000) := Lib.hid (by have := HH.out.2.1; omega)
      clear hx
      obtain ⟨N, hN⟩ : ∃ N, N = wr.heap.size := ⟨_, rfl⟩
      obtain ⟨a1, ha1⟩ : ∃ a1, a1 = airOf p.l x.f := ⟨_, rfl⟩
      obtain ⟨a2, ha2⟩ : ∃ a2, a2 = airOf p.l x.t := ⟨_, rfl⟩
      have K1 := KF.out x.f _ hSx
      have K2 := KF.out x.t
      rw [← ha1] at K1
      rw [← ha2] at K2
      have K2 := Lib.hid K2
      have HA1 := Lib.hid ha1
      have HA2 := Lib.hid ha2
      have hSz := hbx.size
      clear ha1 ha2
      go_upto_region 7 with (first
        | (go_at_call 175; refine (K2.out _ hS2).mono ?_; rintro e w3 ⟨hb3, A2, c2', rfl, hs2, hf2⟩)
        | (go_at_call 175; refine K1.mono ?_; rintro e w1 ⟨hb1, A1, c1', rfl, hs1, hf1⟩; have hS1 : SW w5 w1 := Below.trans hSx (Below.mono hb1 hSx.size); have hS2 : SW w5 (w1.alloc (.cells #[.string a1.code, .string a1.city, .string a1.land, .int .i64 a1.off, .slice A1 a1.shs.length c1'] airT)) := Below.alloc hS1 hS1.size _; have z0 := y0 _ hS2; have z1 := y1 _ hS2; have hb12 : Below wr.heap.size wr (w1.alloc (.cells #[.string a1.code, .string a1.city, .string a1.land, .int .i64 a1.off, .slice A1 a1.shs.length c1'] airT)) := (hbx.trans (Below.mono hb1 hbx.size)).alloc (Nat.le_trans hbx.size hb1.size) _; have r0 := bel_cell (bel_alloc w1 (.cells #[.string a1.code, .string a1.city, .string a1.land, .int .i64 a1.off, .slice A1 a1.shs.length c1'] airT)) (bel_cell hb1 l0); have r1 := bel_cell (bel_alloc w1 (.cells #[.string a1.code, .string a1.city, .string a1.land, .int .i64 a1.off, .slice A1 a1.shs.length c1'] airT)) (bel_cell hb1 l1)))
      have bx1 := bel_alloc w1 (.cells #[.string a1.code, .string a1.city, .string a1.land, .int .i64 a1.off, .slice A1 a1.shs.length c1'] airT)
      have bx3 := bel_alloc w3 (.cells #[.string a2.code, .string a2.city, .string a2.land, .int .i64 a2.off, .slice A2 a2.shs.length c2'] airT)
      have l0 := bel_cell bx3 (bel_cell hb3 (bel_cell bx1 (bel_cell hb1 l0)))
      have l1 := bel_cell bx3 (bel_cell hb3 (bel_cell bx1 (bel_cell hb1 l1)))
      have l2 := bel_cell bx3 (bel_cell hb3 (bel_cell bx1 (bel_cell hb1 l2)))
      have l3 := bel_cell bx3 (bel_cell hb3 (bel_cell bx1 (bel_cell hb1 l3)))
      have l4 := bel_cell bx3 (bel_cell hb3 (bel_cell bx1 (bel_cell hb1 l4)))
      have m3 := bel_cell bx3 (bel_cell hb3 ((cells_new w1 #[.string a1.code, .string a1.city, .string a1.land, .int .i64 a1.off, .slice A1 a1.shs.length c1'] airT 3).trans (show _ = some (.int .i64 a1.off) from rfl)))
      have m4 := bel_cell bx3 (bel_cell hb3 ((cells_new w1 #[.string a1.code, .string a1.city, .string a1.land, .int .i64 a1.off, .slice A1 a1.shs.length c1'] airT 4).trans (show _ = some (.slice A1 a1.shs.length c1') from rfl)))
      have n3 := (cells_new w3 #[.string a2.code, .string a2.city, .string a2.land, .int .i64 a2.off, .slice A2 a2.shs.length c2'] airT 3).trans (show _ = some (.int .i64 a2.off) from rfl)
      have n4 := (cells_new w3 #[.string a2.code, .string a2.city, .string a2.land, .int .i64 a2.off, .slice A2 a2.shs.length c2'] airT 4).trans (show _ = some (.slice A2 a2.shs.length c2') from rfl)
      have hb13 : Below wr.heap.size wr w3 := hb12.trans (Below.mono hb3 hb12.size)
      have hb14 : Below wr.heap.size wr (w3.alloc (.cells #[.string a2.code, .string a2.city, .string a2.land, .int .i64 a2.off, .slice A2 a2.shs.length c2'] airT)) := hb13.alloc hb13.size _
      have hs1' := ((hs1.more bx1).more hb3).more bx3
      have hs2' := hs2.more bx3
      have hSq : SW w5 (w3.alloc (.cells #[.string a2.code, .string a2.city, .string a2.land, .int .i64 a2.off, .slice A2 a2.shs.length c2'] airT)) := Below.trans hSr (hb14.mono hSr.size)
      have hO := HH.out.1.more hb14
      have HNs := Lib.hid (fun (k' : Nat) (x' : Lg) (n' : NS) h1 h2 => (HH.out.2.2.1 k' x' n' h1 h2).more hb14)
      generalize hw4 : w3.alloc (.cells #[.string a2.code, .string a2.city, .string a2.land, .int .i64 a2.off, .slice A2 a2.shs.length c2'] airT) = w4 at *
      have hfr : ∀ (A' : Option Addr) (l' : Shs), ShL w4 A' l' → (A' = none ∨ ∃ g, A' = some ⟨g, 0, none⟩ ∧ wr.heap.size ≤ g) → ShO w4 v A' l' := fun A' l' h1 h2 => ⟨h1, by
        rcases h1 with h | ⟨b', o', e1, e2, _⟩
        · exact .inl h
        · rcases h2 with h2 | ⟨g, h2, h4⟩
          · exact .inr (.inl h2)
          · refine .inr (.inr ⟨g, h2, ?_, fun e => ?_⟩)
            · rw [h2] at e1; cases e1; exact e2
            · have := (HH.out.1.low e).2; omega⟩
      have HS1 := Lib.hid (hfr A1 a1.shs hs1' (by
        rcases hf1 with h | ⟨g, h, hg⟩
        · exact .inl h
        · exact .inr ⟨g, h, by rw [World.size_alloc] at hg; omega⟩))
      have HS2 := Lib.hid (hfr A2 a2.shs hs2' (by
        rcases hf2 with h | ⟨g, h, hg⟩
        · exact .inl h
        · exact .inr ⟨g, h, by have := hb12.size; omega⟩))
      have HLk := Lib.hid HH.out.2.1
      clear hfr hs1' hs2' hs1 hs2 hf1 hf2 hb3 hb1 bx1 bx3 hb13 HH hw4 K1 K2 hS1 hS2 hb12
      go_wp2_with (at_builtin; refine wpList_rapp rtN rfl _ _ rfl hO rfl (bel_alloc _ _) _ (⟨x, a1.off, A1, c1', a1.shs, a2.off, A2, c2', a2.shs⟩ : NS) _ rfl (cs := #[.string x.f, .string x.t, .int .i64 x.dep, .int .i64 x.arr, .string x.eq, .int .i64 a1.off, .slice A1 a1.shs.length c1', .int .i64 a2.off, .slice A2 a2.shs.length c2']) rfl (heap_alloc_new _ _) HLn.out ?_; intro v' w' hO' hC')
      have HZ : Hid (ROwn nonT 9 encNS w5.heap.size w' v' (L ++ [(⟨x, a1.off, A1, c1', a1.shs, a2.off, A2, c2', a2.shs⟩ : NS)]) ∧ (L ++ [(⟨x, a1.off, A1, c1', a1.shs, a2.off, A2, c2', a2.shs⟩ : NS)]).length = k + 1 ∧ (∀ (k' : Nat) (x' : Lg) (n' : NS), lg[k']? = some x' → (L ++ [(⟨x, a1.off, A1, c1', a1.shs, a2.off, A2, c2', a2.shs⟩ : NS)])[k']? = some n' → NsOf w' v' p.l x' n') ∧ SW w5 w') := Lib.hid ⟨hO', by rw [List.length_append, HLk.out]; rfl, fun k' x' n' h1 h2 => by
        by_cases hk' : k' < L.length
        · rw [List.getElem?_append_left hk'] at h2
          exact (HNs.out k' x' n' h1 h2).chg hC'
        · have hke : k' = k := by
            have := (List.getElem?_eq_some_iff.1 h2).1
            rw [List.length_append] at this
            have := HLk.out
            simp at *
            omega
          subst hke
          rw [List.getElem?_append_right (by omega), HLk.out, Nat.sub_self] at h2
          rw [HX.out] at h1
          cases h1
          cases h2
          exact (⟨rfl, by rw [← HA1.out], by rw [← HA1.out], by rw [← HA2.out], by rw [← HA2.out], HS1.out, HS2.out⟩ : NsOf w4 v p.l x _).chg hC', Below.trans hSq ((hC'.below hO).mono (Nat.le_refl _))⟩
      clear hO' hC' hO
      go_roundg (lg.length - (k + 1))
      case measure => have := HKX.out; omega
      case rel => exact ⟨_, k + 1, _, rfl, by go_num, by omega, HZ⟩
    · have hk : k = lg.length := by omega
      have HZ : Hid (ROwn nonT 9 encNS w.heap.size wr v L ∧ L.length = lg.length ∧ (∀ (k : Nat) (x : Lg) (n : NS), lg[k]? = some x → L[k]? = some n → NsOf wr v p.l x n) ∧ Below w.heap.size w wr) := Lib.hid ⟨⟨HH.out.1.own.mono hb0.size, Nat.le_trans hb0.size hSr.size⟩, by rw [HH.out.2.1, hk], HH.out.2.2.1, hb0.trans (Below.mono hSr hb0.size)⟩
      clear HH hkx hk
      go_wp2
      go_ret
      exact ⟨v, L, rfl, HZ.out⟩

end Go.Proofs.YtldillnjnjkkgaaGreatDoor

/- Walk of isOrdered. -/
namespace Go.Proofs.YtldillnjnjkkgaaGreatDoor
open Go.RowKit Go.Shelf
set_option linter.unusedSimpArgs false
set_option linter.unusedVariables false

/-- departures and arrivals in their order -/
def ordT : Bool → Int → List (Int × Int) → Bool
  | _, _, [] => true
  | first, before, (d, a) :: r => if a ≤ d then false else if first = false ∧ d < before then false else ordT false a r
def depL (l : List Air) (x : Lg) (day : Int) : Int := utcZ (airOf l x.f).off (airOf l x.f).shs (day * 1440 + x.dep)
def arrL (l : List Air) (x : Lg) (day : Int) : Int := utcZ (airOf l x.t).off (airOf l x.t).shs (day * 1440 + x.arr)
def timL (l : List Air) (lg : List Lg) (day : Int) : List (Int × Int) := lg.map fun x => (depL l x day, arrL l x day)
theorem okZ_zero : OkZ 0 [] := ⟨by simp, by omega, fun k h => by simp at h, fun k h => by simp at h, fun k h => by simp at h⟩
theorem okZ_of {l : List Air} (h : ∀ a ∈ l, OkZ a.off a.shs) (s : ByteArray) : OkZ (airOf l s).off (airOf l s).shs := by
  unfold airOf
  cases hc : findC l s with
  | none => exact okZ_zero
  | some a => exact h a (List.mem_of_find?_eq_some hc)
theorem ordT_step {l : List Air} {lg : List Lg} {day : Int} {k : Nat} {x : Lg} (h : lg[k]? = some x) (first : Bool) (before : Int) :
    ordT first before ((timL l lg day).drop k) = if arrL l x day ≤ depL l x day then false else if first = false ∧ depL l x day < before then false else ordT false (arrL l x day) ((timL l lg day).drop (k + 1)) := by
  obtain ⟨hlt, rfl⟩ := List.getElem?_eq_some_iff.1 h
  unfold timL
  have hl : k < (lg.map fun x => (depL l x day, arrL l x day)).length := by rw [List.length_map]; exact hlt
  rw [List.drop_eq_getElem_cons hl, List.getElem_map]
  rfl
theorem RowL.get9 {w : World} {A : Option Addr} {n c : Nat} {L : List NS} (h : RowL 9 encNS w (.slice A n c) L) {k : Nat} (hk : k < L.length) : ∃ b o y, A = some ⟨b, o, none⟩ ∧ b < w.heap.size ∧ L[k]? = some y ∧ ∀ j u, (encNS y)[j]? = some u → w.cell? ⟨b, o + k * 9 + j, none⟩ = some u := by
  obtain ⟨b, o, h1, h2, h3⟩ := h.at rfl hk
  exact ⟨b, o, L[k], h1, h2, List.getElem?_eq_getElem hk, h3⟩

set_option maxRecDepth 100000 in
set_option maxHeartbeats 8000000 in
theorem isOrdered_any (v : Value) (l : List Air) (lg : List Lg) (L : List NS) (day : Int) (w : World) (hv : RowL 9 encNS w v L) (hLL : L.length = lg.length) (hN : ∀ (k : Nat) (x : Lg) (n : NS), lg[k]? = some x → L[k]? = some n → NsOf w v l x n) (hz : ∀ a ∈ l, OkZ a.off a.shs)
    (hlen : lg.length ≤ 100) (hd : -100000000 ≤ day ∧ day ≤ 100000000) (hm : ∀ x ∈ lg, (-1000000 ≤ x.dep ∧ x.dep ≤ 1000000) ∧ -1000000 ≤ x.arr ∧ x.arr ≤ 1000000) :
    Calls Tryz.prog 187 #[v, .int .i64 day] w fun e w' => e = .returned (.bool (ordT true 0 (timL l lg day))) ∧ Below w.heap.size w w' := by
  obtain ⟨A, c, rfl, hvc⟩ := id hv
  have HN := Lib.hid hN
  have HZ := Lib.hid hz
  have HM := Lib.hid hm
  clear hN hz hm hvc
  have HLL := Lib.hid hLL
  rw [hLL]
  have HV := Lib.hid hv
  clear hv hLL
  go_enter Tryz.func187, Tryz.ntmps187
  go_wp2
  go_loopg [5, 12] lg.length (fun kx v5 vi wr => ∃ (k : Nat) (before : Int), v5 = .int .i64 before ∧ vi = .int .i64 k ∧ k + kx = lg.length ∧ Hid (ordT true 0 (timL l lg day) = ordT (decide (k = 0)) before ((timL l lg day).drop k)) ∧ SW w wr)
  case atStart => exact ⟨0, 0, rfl, rfl, by omega, Lib.hid rfl, Below.refl _ _⟩
  case round =>
    obtain ⟨k, before, rfl, rfl, hkx, HO, hS⟩ := hrel
    have HKX := Lib.hid hkx
    by_cases hlt : k < lg.length
    · clear hkx
      obtain ⟨x, hx⟩ : ∃ x, lg[k]? = some x := ⟨_, List.getElem?_eq_getElem hlt⟩
      obtain ⟨b, o, n, rfl, hbl, hn, hc⟩ := RowL.get9 (HV.out.more hS) (show k < L.length by have := HLL.out; omega)
      have hns := HN.out k x n hx hn
      have HST := Lib.hid (HO.out.trans (ordT_step hx _ _))
      have hzf := okZ_of HZ.out x.f
      have hzt := okZ_of HZ.out x.t
      have hmx := HM.out x (List.mem_of_getElem? hx)
      have hdl : depL l x day = utcZ n.fo n.fs (day * 1440 + n.x.dep) := by unfold depL; rw [hns.fo, hns.fs, hns.ex]
      have hal : arrL l x day = utcZ n.ti n.ts (day * 1440 + n.x.arr) := by unfold arrL; rw [hns.ti, hns.ts, hns.ex]
      rw [hdl, hal] at HST
      have i2 : (k : Int) < (lg.length : Int) := by omega
      have c0 := hc 0 _ rfl
      have c1 := hc 1 _ rfl
      have c2 := hc 2 _ rfl
      have c3 := hc 3 _ rfl
      have c4 := hc 4 _ rfl
      have c5 := hc 5 _ rfl
      have c6 := hc 6 _ rfl
      have c7 := hc 7 _ rfl
      have c8 := hc 8 _ rfl
      rw [Nat.add_zero] at c0
      have hbx := bel_alloc wr (.cells (encNS n).toArray nonT)
      have hSx : SW w (wr.alloc (.cells (encNS n).toArray nonT)) := Below.alloc hS hS.size _
      have K1 : Hid (∀ W, SW (wr.alloc (.cells (encNS n).toArray nonT)) W → Calls Tryz.prog 96 #[encN n, .int .i64 day] W fun e w' => e = .returned (.int .i64 (utcZ n.fo n.fs (day * 1440 + n.x.dep))) ∧ SW (wr.alloc (.cells (encNS n).toArray nonT)) w') :=
        Lib.hid (SW.call (fun W hW => departure_any n day W (by rw [hns.fo, hns.fs]; exact hzf) (hns.shf.1.more (Below.trans hSx (Below.mono hW hSx.size))) hd (by rw [hns.ex]; exact hmx.1)))
      have K2 : Hid (∀ W, SW (wr.alloc (.cells (encNS n).toArray nonT)) W → Calls Tryz.prog 97 #[encN n, .int .i64 day] W fun e w' => e = .returned (.int .i64 (utcZ n.ti n.ts (day * 1440 + n.x.arr))) ∧ SW (wr.alloc (.cells (encNS n).toArray nonT)) w') :=
        Lib.hid (SW.call (fun W hW => arrival_any n day W (by rw [hns.ti, hns.ts]; exact hzt) (hns.sht.1.more (Below.trans hSx (Below.mono hW hSx.size))) hd (by rw [hns.ex]; exact hmx.2)))
      have f0 := SW.cell ((cells_new wr (encNS n).toArray nonT 0).trans (show _ = some (.string n.x.f) from rfl))
      have f1 := SW.cell ((cells_new wr (encNS n).toArray nonT 1).trans (show _ = some (.string n.x.t) from rfl))
      have f2 := SW.cell ((cells_new wr (encNS n).toArray nonT 2).trans (show _ = some (.int .i64 n.x.dep) from rfl))
      have f3 := SW.cell ((cells_new wr (encNS n).toArray nonT 3).trans (show _ = some (.int .i64 n.x.arr) from rfl))
      have f4 := SW.cell ((cells_new wr (encNS n).toArray nonT 4).trans (show _ = some (.string n.x.eq) from rfl))
      have f5 := SW.cell ((cells_new wr (encNS n).toArray nonT 5).trans (show _ = some (.int .i64 n.fo) from rfl))
      have f6 := SW.cell ((cells_new wr (encNS n).toArray nonT 6).trans (show _ = some (.slice n.fA n.fs.length n.fc) from rfl))
      have f7 := SW.cell ((cells_new wr (encNS n).toArray nonT 7).trans (show _ = some (.int .i64 n.ti) from rfl))
      have f8 := SW.cell ((cells_new wr (encNS n).toArray nonT 8).trans (show _ = some (.slice n.tA n.ts.length n.tc) from rfl))
      clear hns hx hn hc hdl hal hzf hzt hmx
      generalize utcZ n.fo n.fs (day * 1440 + n.x.dep) = dd at *
      generalize utcZ n.ti n.ts (day * 1440 + n.x.arr) = aa at *
      unfold encNS at *
      go_wp2
      have hNe : Nonempty (Wd (SW (wr.alloc (.cells [.string n.x.f, .string n.x.t, .int .i64 n.x.dep, .int .i64 n.x.arr, .string n.x.eq, .int .i64 n.fo, .slice n.fA n.fs.length n.fc, .int .i64 n.ti, .slice n.tA n.ts.length n.tc].toArray nonT)))) := ⟨⟨_, SW.drew _⟩⟩
      refine quietS (S := SW (wr.alloc (.cells [.string n.x.f, .string n.x.t, .int .i64 n.x.dep, .int .i64 n.x.arr, .string n.x.eq, .int .i64 n.fo, .slice n.fA n.fs.length n.fc, .int .i64 n.ti, .slice n.tA n.ts.length n.tc].toArray nonT))) (by kernel_rfl) (by kernel_rfl) (SW.drew _) ?_
      repeat (first | go_big_quiet_skip | (go_big_quiet_want; go_big_quiet_op; first | go_big_quiet_on | go_big_quiet_call ((first | (go_at_call 96; (with_reducible exact quiet_S (K1.out _ (Wd.ok _)))) | (go_at_call 97; (with_reducible exact quiet_S (K2.out _ (Wd.ok _))))))))
      refine wpQuiet_nil ?_
      rintro W ⟨⟨_, hW⟩, rfl⟩
      have hSw : SW w W := Below.trans hSx (Below.mono hW hSx.size)
      by_cases h1 : aa ≤ dd
      · have HR := Lib.hid (HST.out.trans (if_pos h1))
        go_wp2
        go_ret
        exact ⟨ret_bool HR.out.symm, hSw⟩
      · have HS2 := Lib.hid (HST.out.trans (if_neg h1))
        have hna : ¬ aa ≤ dd := h1
        by_cases h0 : k = 0
        · have HR : Hid (ordT true 0 (timL l lg day) = ordT (decide (k + 1 = 0)) aa ((timL l lg day).drop (k + 1))) := Lib.hid (by
            rw [HS2.out, if_neg (by simp [h0])]
            rw [show decide (k + 1 = 0) = false by simp])
          subst h0
          clear HS2 HST h1
          go_wp2
          go_roundg (lg.length - (0 + 1))
          case measure => have := HKX.out; omega
          case rel => exact ⟨0 + 1, aa, rfl, by go_num, by omega, HR, hSw⟩
        · have i3 : (0 : Int) < (k : Int) := by omega
          have i4 : 0 < k := by omega
          by_cases h2 : dd < before
          · have HR := Lib.hid (HS2.out.trans (if_pos ⟨by simp [h0], h2⟩))
            clear HS2 HST h1 h0
            go_wp2
            go_ret
            exact ⟨ret_bool HR.out.symm, hSw⟩
          · have HR : Hid (ordT true 0 (timL l lg day) = ordT (decide (k + 1 = 0)) aa ((timL l lg day).drop (k + 1))) := Lib.hid (by
              rw [HS2.out, if_neg (fun h => h2 h.2)]
              rw [show decide (k + 1 = 0) = false by simp])
            clear HS2 HST h1 h0
            go_wp2
            go_roundg (lg.length - (k + 1))
            case measure => have := HKX.out; omega
            case rel => exact ⟨k + 1, aa, rfl, by go_num, by omega, HR, hSw⟩
    · have HR : Hid (ordT true 0 (timL l lg day) = true) := Lib.hid (by
        rw [HO.out, List.drop_of_length_le (by unfold timL; rw [List.length_map]; omega)]
        rfl)
      go_wp2
      go_ret
      exact ⟨ret_bool HR.out.symm, hS⟩

end Go.Proofs.YtldillnjnjkkgaaGreatDoor

/- The iterator over the days of a period: its contract, over whatever loop. -/
namespace Go.Proofs.YtldillnjnjkkgaaGreatDoor.Per
open Go.RowKit Go.Shelf
set_option linter.unusedSimpArgs false
set_option linter.unusedVariables false
attribute [local go_sem] Oper.semAt_some

/-- a day that there is -/
abbrev Dy := { x : Int // 0 ≤ x ∧ x < 36525 }
abbrev encD (x : Dy) : Array Value := #[.int .i64 x.1]
abbrev perT : TypeId := 23
/-- block B holds the period p -/
def BoxAt (W : World) (B : Nat) (p : Per) : Prop := W.heap[B]? = some (.cells #[.int .i64 p.1, .int .i64 p.2.1, .int .i64 p.2.2] perT (0, 0))
theorem BoxAt.cell {W : World} {B : Nat} {p : Per} (h : BoxAt W B p) : W.cell? ⟨B, 0, none⟩ = some (.int .i64 p.1) ∧ W.cell? ⟨B, 1, none⟩ = some (.int .i64 p.2.1) ∧ W.cell? ⟨B, 2, none⟩ = some (.int .i64 p.2.2) :=
  ⟨cell_of_row _ _ 0 _ _ (0, 0) h, cell_of_row _ _ 1 _ _ (0, 0) h, cell_of_row _ _ 2 _ _ (0, 0) h⟩
theorem BoxAt.lt {W : World} {B : Nat} {p : Per} (h : BoxAt W B p) : B < W.heap.size := (Array.getElem?_eq_some_iff.1 h).1
theorem BoxAt.more {W W' : World} {B : Nat} {p : Per} (h : BoxAt W B p) (hb : Below W.heap.size W W') : BoxAt W' B p := (hb.block B h.lt).trans h
theorem BoxAt.drew' {W : World} {B : Nat} {p : Per} (h : BoxAt W B p) : BoxAt W.drew B p := h.more (Below.refl _ _).drew
/-- what a round keeps -/
def KpB (n₀ B : Nat) (W W' : World) : Prop := Below n₀ W W' ∧ W'.heap[B]? = W.heap[B]?
theorem kp_t {n₀ B : Nat} {X Y Z : World} (h : KpB n₀ B X Y) (k : KpB n₀ B Y Z) : KpB n₀ B X Z := ⟨h.1.trans k.1, k.2.trans h.2⟩
theorem kp_b {n₀ B : Nat} {w : World} (hn : n₀ ≤ w.heap.size) (hB : B < w.heap.size) (W : World) (l : Nat) (o o' : Obj) (hl : w.heap.size ≤ l) (h : W.heap[l]? = some o) (h1 : o.isCells = false) (h2 : o.isWalk = false) : KpB n₀ B W (W.putObj l o') :=
  ⟨belowK_b hn W l o o' hl h h1 h2, World.putObj_heap_other (by omega)⟩
theorem grown_of_below {W W' : World} (h : Below W.heap.size W W') : W.grownBy W' none := ⟨h.os, h.tape, h.output, h.size, fun k hk _ => h.block k hk⟩
theorem abide_below {β : Type} {B : Nat} {J : β → World → Prop} (hJ : AbidesFrom B J) {s : β} {W W' : World} (h : J s W) (hb : Below W.heap.size W W') : J s W' :=
  hJ s W W' none h (grown_of_below hb) (fun r e => by cases e)

/-- the days as numbers -/
def vals (l : List Dy) : List Int := l.map (·.1)
theorem vals_snoc (l : List Dy) (x : Dy) : vals (l ++ [x]) = vals l ++ [x.1] := by simp [vals]
theorem vals_len (l : List Dy) : (vals l).length = l.length := by simp [vals]
theorem wide_fn (f : Nat) : Fence.wide.fn f := trivial
attribute [local simp] wide_fn
theorem quietSIn {F : Fence} {n : Nat} {P : Program} {S : World → Prop} {id : Nat} {Q : Exit → Act → World → Prop} {a : Act} {w : World} {l : List Oper} (hro : F.round = none) (hm : P.follows .mixedOrders = true) (hB : Region.lexB .any l.toArray = true) (hC : S w.drew)
    (h : wpQuietIn F n P l.toArray (fun w' => ∃ x : Wd S, w' = x.w) (fun a' => ∀ w', (∃ x : Wd S, w' = x.w) → Q .normal a' w') l a) : (Code.region id l.toArray true).wpIn F n P Q a w :=
  wpIn_region_quiet (C := fun w' => ∃ x : Wd S, w' = x.w) hro hm hB ⟨⟨_, hC⟩, rfl⟩ (by simpa using h)
theorem quiet_SIn {F : Fence} {n : Nat} {P : Program} {f : FuncId} {args : Array Value} {W : World} {S : World → Prop} {v : Value} (h : CallsIn F n P f args W fun e w' => e = .returned v ∧ S w') :
    CallsIn F n P f args W fun e w'' => e = .returned v ∧ ∃ x : Wd S, w'' = x.w := h.mono (by rintro e w' ⟨he, hs⟩; exact ⟨he, ⟨w', hs⟩, rfl⟩)
/-- a world of a round before its yield -/
def InRd (J : List Dy → World → Prop) (pre : List Dy) (B : Nat) (p : Per) (W : World) : Prop := J pre W ∧ BoxAt W B p
theorem inRd_call {J : List Dy → World → Prop} {B0 : Nat} (hJa : AbidesFrom B0 J) {pre : List Dy} {B : Nat} {p : Per} {f : Nat} {args : Array Value} {v : Value} (h : ∀ W, Calls Tryz.prog f args W fun e w' => e = .returned v ∧ Below W.heap.size W w') (W : World) (hi : InRd J pre B p W) :
    CallsIn Fence.wide 8 Tryz.prog f args W fun e w' => e = .returned v ∧ InRd J pre B p w' :=
  callsIn_wide.2 ((h W).mono (by rintro e w' ⟨he, hb⟩; exact ⟨he, abide_below hJa hi.1 hb, hi.2.more hb⟩))

theorem yield_two {F : Fence} {m : Nat} {P : Program} {l : Nat} {fn : FuncId} {tmps : Array Value} {assign body : Code} {W : World} {R1 R2 : World → Prop}
    (h : RoundIn F m P l fn tmps assign body W fun e W' => (e = .returned (.bool true) ∧ R1 W') ∨ (e = .returned (.bool false) ∧ R2 W')) :
    RoundIn F m P l fn tmps assign body W fun e W' => ∃ b, e = .returned (.bool b) ∧ (b = true → R1 W') ∧ (b = false → R2 W') := h.mono (by
  rintro e W' (⟨rfl, h⟩ | ⟨rfl, h⟩)
  · exact ⟨true, rfl, fun _ => h, fun e => (nomatch e)⟩
  · exact ⟨false, rfl, fun e => (nomatch e), fun _ => h⟩)

set_option maxRecDepth 100000 in
set_option maxHeartbeats 2000000 in
theorem each1_in (l Bn n₀ : Nat) (f t d : Int) (J Jx : List Dy → World → Prop) (B0 : Nat) (hJa : AbidesFrom B0 J)
    (hY : ∀ pre x W, J pre W → pre.length < 800 → YieldAt Fence.wide 8 Tryz.prog l (encD x) W fun e W' =>
      (e = .returned (.bool true) ∧ J (pre ++ [x]) W' ∧ KpB n₀ Bn W W') ∨ (e = .returned (.bool false) ∧ Jx (pre ++ [x]) W'))
    (W : World) (hBn : BoxAt W Bn (f, t, d)) (h0 : J [] W) :
    CallsIn Fence.wide 9 Tryz.prog 230 #[.func (.yield l) #[] #[], .pointer (some ⟨Bn, 0, none⟩)] W fun e W' => (∃ v, e = .returned v) ∧
      ((∃ ys : List Dy, vals ys = daysQ (f, t, d) ∧ J ys W') ∨ (∃ pre, True ∧ Jx pre W')) := by
  obtain ⟨c0, c1, c2⟩ := hBn.cell
  have CV := isValid_any f t d W
  cases h : okQ (f, t, d)
  · rw [h] at CV
    refine callsIn_of_wp Tryz.func230 rfl trivial ?_ rfl
    simp only [Tryz.ntmps230, List.size_toArray, List.length_cons, List.length_nil, Nat.reduceAdd, Nat.reduceSub, Array.replicate_succ, Array.replicate_zero, List.push_toArray, List.append_toArray, List.nil_append, List.cons_append]
    gi_wp2_with (gi_at_call 128; refine (callsIn_wide.2 CV).mono ?_; rintro e w' ⟨rfl, hb⟩)
    refine bodyPost_ret (results_none rfl _ _ _) rfl ?_
    exact ⟨⟨_, rfl⟩, .inl ⟨[], by rw [daysQ_no h]; rfl, abide_below hJa h0 hb⟩⟩
  · rw [h] at CV
    have hq := okQ_yes h
    have q0 : 0 ≤ f := hq.1
    have q1 : f ≤ t := hq.2.1
    have q2 : t < 36525 := hq.2.2.1
    have q3 : t - f < 800 := hq.2.2.2.1
    have q4 : 1 ≤ d := hq.2.2.2.2.1
    have q5 : d ≤ 127 := hq.2.2.2.2.2
    have hlen : lenQ (f, t, d) = (t - f + 1).toNat := rfl
    have HD := Lib.hid (daysQ_yes h)
    clear h hq
    refine callsIn_of_wp Tryz.func230 rfl trivial ?_ rfl
    simp only [Tryz.ntmps230, List.size_toArray, List.length_cons, List.length_nil, Nat.reduceAdd, Nat.reduceSub, Array.replicate_succ, Array.replicate_zero, List.push_toArray, List.append_toArray, List.nil_append, List.cons_append]
    gi_wp2_with (gi_at_call 128; refine (callsIn_wide.2 CV).mono ?_; rintro e w' ⟨rfl, hb⟩; have hBn2 := hBn.more hb; have c0' := hBn2.cell.1)
    gi_loopw [3] (fun i wr => ∃ (k : Nat) (pre : List Dy), k ≤ lenQ (f, t, d) ∧ i = .int .i64 (f + k) ∧ Hid (vals pre = daysTo (f, t, d) k) ∧ J pre wr ∧ BoxAt wr Bn (f, t, d)) (fun i _ => (t + 1 - intOf i).toNat)
    case atStart => exact ⟨0, [], Nat.zero_le _, by simp, Lib.hid rfl, abide_below hJa h0 hb, hBn2⟩
    case round =>
      clear CV hb hBn2 c0' c0 c1 c2 hBn h0
      obtain ⟨k, pre, hk, rfl, HP, hJ, hB⟩ := hrel
      obtain ⟨g0, g1, g2⟩ := hB.cell
      by_cases hlt : k < lenQ (f, t, d)
      · have x1 : 0 ≤ f + (k : Int) := by omega
        have x2 : f + (k : Int) < 36525 := by omega
        have x3 : f + (k : Int) ≤ t := by omega
        have hpl : pre.length < 800 := by
          have h1 := daysTo_len (f, t, d) k
          rw [← HP.out, vals_len] at h1
          omega
        have CW := Lib.hid (inRd_call hJa (pre := pre) (B := Bn) (p := (f, t, d)) (fun W => wk_any (f + k) W (by omega) (by omega)))
        have CH := Lib.hid (inRd_call hJa (pre := pre) (B := Bn) (p := (f, t, d)) (fun W => hasWd_any f t d (wkN (f + k)) W (by omega) (by omega) (wkN_lt _)))
        have hI : InRd J pre Bn (f, t, d) wr.drew := ⟨abide_below hJa hJ (Below.refl _ _).drew, hB.drew'⟩
        have g0' : ∀ x : Wd (InRd J pre Bn (f, t, d)), x.w.cell? ⟨Bn, 0, none⟩ = some (.int .i64 f) := fun x => x.ok.2.cell.1
        have g1' : ∀ x : Wd (InRd J pre Bn (f, t, d)), x.w.cell? ⟨Bn, 1, none⟩ = some (.int .i64 t) := fun x => x.ok.2.cell.2.1
        have g2' : ∀ x : Wd (InRd J pre Bn (f, t, d)), x.w.cell? ⟨Bn, 2, none⟩ = some (.int .i64 d) := fun x => x.ok.2.cell.2.2
        cases hw : wdB d (f + k)
        · rw [show d.toNat.testBit (wkN (f + k)) = false from hw] at CH
          have HN := Lib.hid (daysTo_miss (f, t, d) k hw)
          clear hw
          generalize wkN (f + k) = wk at *
          gi_wp2
          have hNe : Nonempty (Wd (InRd J pre Bn (f, t, d))) := ⟨⟨_, hI⟩⟩
          refine quietSIn (S := InRd J pre Bn (f, t, d)) rfl (by kernel_rfl) (by kernel_rfl) (hI) ?_
          repeat (first | gi_big_quiet_skip | (gi_big_quiet_want; gi_big_quiet_op; first | go_big_quiet_on | gi_big_quiet_call ((first | (gi_at_call 166; exact quiet_SIn (CW.out _ (Wd.ok _))) | (gi_at_call 165; exact quiet_SIn (CH.out _ (Wd.ok _)))))))
          refine wpQuietIn_nil ?_
          rintro W ⟨⟨_, hW⟩, rfl⟩
          gi_wp2
          go_roundw
          case rel => exact ⟨k + 1, pre, by omega, by congr 1; omega, Lib.hid (by rw [HP.out, HN.out]), hW.1, hW.2⟩
          case measure => simp [intOf]; omega
        · rw [show d.toNat.testBit (wkN (f + k)) = true from hw] at CH
          have HN := Lib.hid (daysTo_hit (f, t, d) k hw)
          clear hw
          have HY := Lib.hid hY
          clear hY
          generalize wkN (f + k) = wk at *
          gi_wp2
          gi_region_with (first | (gi_at_call 166; refine (CW.out _ hI).mono ?_; rintro e w2 ⟨rfl, hI2⟩; have k0 := hI2.2.cell.1; have k1 := hI2.2.cell.2.1; have k2 := hI2.2.cell.2.2) | (gi_at_call 165; refine (CH.out _ hI2).mono ?_; rintro e w3 ⟨rfl, hI3⟩; obtain ⟨fn, tmps, assign, body, hy, hR⟩ := HY.out pre ⟨f + k, x1, x2⟩ w3 hI3.1 hpl; dsimp only [encD] at hy) | (refine (yield_two hR).mono ?_; rintro e W3 ⟨b, rfl, hb1, hb2⟩))
          all_goals
            cases b
            · have hx := hb2 rfl
              gi_wp2
              refine bodyPost_ret (results_none rfl _ _ _) rfl ?_
              exact ⟨⟨_, rfl⟩, .inr ⟨_, hx⟩⟩
            · obtain ⟨hJ3, hk3⟩ := hb1 rfl
              gi_wp2
              go_roundw
              case rel => exact ⟨k + 1, pre ++ [⟨f + k, x1, x2⟩], by omega, by congr 1; omega, Lib.hid (by rw [vals_snoc, HP.out, HN.out]), hJ3, hk3.2.trans hI3.2⟩
              case measure => simp [intOf]; omega
      · have e : k = lenQ (f, t, d) := by omega
        subst e
        gi_wp2
        go_end0
        exact ⟨⟨_, rfl⟩, .inl ⟨pre, by rw [HP.out, HD.out], hJ⟩⟩

/-- the contract of the iterator's value -/
theorem each_stops (Bn n₀ : Nat) (p : Per) (w : World) (hBn : BoxAt w Bn p) :
    SeqStopsK Fence.wide 9 Tryz.prog 230 #[.pointer (some ⟨Bn, 0, none⟩)] encD (KpB n₀ Bn) (fun ys => vals ys = daysQ p) (fun _ => True) 800 w := fun l J Jx W hW hJ _ hY h0 =>
  each1_in l Bn n₀ p.1 p.2.1 p.2.2 J Jx W.heap.size hJ hY W (hBn.more hW) h0
set_option maxHeartbeats 1000000 in
/-- 'each(p)': the period is boxed; the function value captures the box -/
theorem each_any (p : Per) (w : World) : CallsIn Fence.wide 9 Tryz.prog 177 #[encQ p] w fun e w' => e = .returned (.func (.func 230) #[] #[.pointer (some ⟨w.heap.size, 0, none⟩)]) ∧ w' = w.alloc (.cells #[.int .i64 p.1, .int .i64 p.2.1, .int .i64 p.2.2] perT) := by
  refine callsIn_of_wp Tryz.func177 rfl trivial ?_ rfl
  simp only [Tryz.ntmps177, List.size_toArray, List.length_cons, List.length_nil, Nat.reduceAdd, Nat.reduceSub, Array.replicate_succ, Array.replicate_zero, List.push_toArray, List.append_toArray, List.nil_append, List.cons_append]
  gi_wp2
  go_ret
  exact ⟨rfl, rfl⟩

end Go.Proofs.YtldillnjnjkkgaaGreatDoor.Per

/- Words for memory: lists of numbers and of periods, as slices. -/
namespace Go.Proofs.YtldillnjnjkkgaaGreatDoor.Per
open Go.RowKit
set_option linter.unusedSimpArgs false
set_option linter.unusedVariables false

/-- the slice value v holds the numbers l, in memory that lies in w -/
def IntL (w : World) (v : Value) (l : List Int) : Prop :=
  ∃ A c, v = .slice A l.length c ∧ (l = [] ∨ ∃ b o, A = some ⟨b, o, none⟩ ∧ b < w.heap.size ∧ ∀ i (h : i < l.length), w.cell? ⟨b, o + i, none⟩ = some (.int .i64 l[i]))
theorem IntL.more {w w' : World} {v : Value} {l : List Int} (h : IntL w v l) (hb : Below w.heap.size w w') : IntL w' v l := by
  obtain ⟨A, c, rfl, h⟩ := h
  refine ⟨A, c, rfl, ?_⟩
  rcases h with h | ⟨b, o, rfl, hlt, hc⟩
  · exact .inl h
  · exact .inr ⟨b, o, rfl, Nat.lt_of_lt_of_le hlt hb.size, fun i hi => (hb.cell (p := ⟨b, o + i, none⟩) hlt).trans (hc i hi)⟩
theorem IntL.of_own {e : TypeId} {B : Nat} {w : World} {v : Value} {l : List Int} (h : w.ownsRow B e 1 v l.length (l.map (Value.int .i64))) : IntL w v l := by
  cases l with
  | nil =>
    rcases h.2 with ⟨rfl, _⟩ | ⟨g, cap, cur, rfl, _⟩
    · exact ⟨none, 0, rfl, .inl rfl⟩
    · exact ⟨_, cap, rfl, .inl rfl⟩
  | cons x r =>
    obtain ⟨g, cap, rfl, _, hlt⟩ := h.form (by simp)
    refine ⟨_, cap, rfl, .inr ⟨g, 0, rfl, hlt, fun i hi => ?_⟩⟩
    have := h.cells (g := g) rfl i (.int .i64 (x :: r)[i]) (by rw [List.getElem?_map, List.getElem?_eq_getElem hi]; rfl)
    have hadd : (⟨g, 0, none⟩ : Addr).add i = ⟨g, 0 + i, none⟩ := by unfold Addr.add; split <;> simp_all
    rw [← hadd]
    exact this
/-- the cells of periods, one behind the other -/
def cellsQ (l : List Per) : List Value := l.flatMap fun p => [.int .i64 p.1, .int .i64 p.2.1, .int .i64 p.2.2]
theorem cellsQ_at : ∀ (l : List Per) (i : Nat) (h : i < l.length), (cellsQ l)[i * 3]? = some (.int .i64 l[i].1) ∧ (cellsQ l)[i * 3 + 1]? = some (.int .i64 l[i].2.1) ∧ (cellsQ l)[i * 3 + 2]? = some (.int .i64 l[i].2.2)
  | [], i, h => by simp at h
  | x :: r, 0, h => by simp [cellsQ]
  | x :: r, i + 1, h => by
    have ih := cellsQ_at r i (by simpa using h)
    have e : cellsQ (x :: r) = .int .i64 x.1 :: .int .i64 x.2.1 :: .int .i64 x.2.2 :: cellsQ r := by simp [cellsQ]
    rw [e, show (i + 1) * 3 = i * 3 + 1 + 1 + 1 by omega, show i * 3 + 1 + 1 + 1 + 1 = (i * 3 + 1) + 1 + 1 + 1 by omega, show i * 3 + 1 + 1 + 1 + 2 = (i * 3 + 2) + 1 + 1 + 1 by omega]
    simp only [List.getElem?_cons_succ, List.getElem_cons_succ]
    exact ih
/-- the slice value v holds the periods l, in memory that lies in w -/
def PerL (w : World) (v : Value) (l : List Per) : Prop :=
  ∃ A c, v = .slice A l.length c ∧ (l = [] ∨ ∃ b o, A = some ⟨b, o, none⟩ ∧ b < w.heap.size ∧ ∀ i (h : i < l.length), w.cell? ⟨b, o + i * 3, none⟩ = some (.int .i64 l[i].1) ∧ w.cell? ⟨b, o + i * 3 + 1, none⟩ = some (.int .i64 l[i].2.1) ∧ w.cell? ⟨b, o + i * 3 + 2, none⟩ = some (.int .i64 l[i].2.2))
theorem PerL.more {w w' : World} {v : Value} {l : List Per} (h : PerL w v l) (hb : Below w.heap.size w w') : PerL w' v l := by
  obtain ⟨A, c, rfl, h⟩ := h
  refine ⟨A, c, rfl, ?_⟩
  rcases h with h | ⟨b, o, rfl, hlt, hc⟩
  · exact .inl h
  · exact .inr ⟨b, o, rfl, Nat.lt_of_lt_of_le hlt hb.size, fun i hi => ⟨(hb.cell (p := ⟨b, o + i * 3, none⟩) hlt).trans (hc i hi).1, (hb.cell (p := ⟨b, o + i * 3 + 1, none⟩) hlt).trans (hc i hi).2.1, (hb.cell (p := ⟨b, o + i * 3 + 2, none⟩) hlt).trans (hc i hi).2.2⟩⟩
theorem PerL.of_own {e : TypeId} {B : Nat} {w : World} {v : Value} {l : List Per} (h : w.ownsRow B e 3 v l.length (cellsQ l)) : PerL w v l := by
  cases l with
  | nil =>
    rcases h.2 with ⟨rfl, _⟩ | ⟨g, cap, cur, rfl, _⟩
    · exact ⟨none, 0, rfl, .inl rfl⟩
    · exact ⟨_, cap, rfl, .inl rfl⟩
  | cons x r =>
    obtain ⟨g, cap, rfl, _, hlt⟩ := h.form (by simp [cellsQ])
    have hadd : ∀ j, (⟨g, 0, none⟩ : Addr).add j = ⟨g, 0 + j, none⟩ := fun j => by unfold Addr.add; split <;> simp_all
    refine ⟨_, cap, rfl, .inr ⟨g, 0, rfl, hlt, fun i hi => ?_⟩⟩
    obtain ⟨a0, a1, a2⟩ := cellsQ_at (x :: r) i hi
    have h0 := h.cells (g := g) rfl _ _ a0
    have h1 := h.cells (g := g) rfl _ _ a1
    have h2 := h.cells (g := g) rfl _ _ a2
    rw [hadd] at h0 h1 h2
    exact ⟨h0, by rw [Nat.add_assoc]; exact h1, by rw [Nat.add_assoc]; exact h2⟩

/-- a row of numbers of the call's own -/
structure IOwn (e : TypeId) (B : Nat) (w : World) (v : Value) (l : List Int) : Prop where
  own : w.ownsRow B e 1 v l.length (l.map (Value.int .i64))
  base : B ≤ w.heap.size
theorem IOwn.nil {e : TypeId} {B : Nat} {w : World} (hB : B ≤ w.heap.size) : IOwn e B w (.slice none 0 0) [] := ⟨World.ownsRow_nil _ _ _ _, hB⟩
theorem IOwn.more {e : TypeId} {B : Nat} {w w' : World} {v : Value} {l : List Int} (h : IOwn e B w v l) (hb : Below w.heap.size w w') : IOwn e B w' v l := ⟨own_more h.own hb, Nat.le_trans h.base hb.size⟩
theorem IOwn.alloc {e : TypeId} {B : Nat} {w : World} {v : Value} {l : List Int} (h : IOwn e B w v l) (o : Obj) : IOwn e B (w.alloc o) v l := h.more (bel_alloc w o)
/-- a row of periods of the call's own -/
structure POwn (e : TypeId) (B : Nat) (w : World) (v : Value) (l : List Per) : Prop where
  own : w.ownsRow B e 3 v l.length (cellsQ l)
  base : B ≤ w.heap.size
theorem POwn.nil {e : TypeId} {B : Nat} {w : World} (hB : B ≤ w.heap.size) : POwn e B w (.slice none 0 0) [] := ⟨World.ownsRow_nil _ _ _ _, hB⟩
theorem POwn.more {e : TypeId} {B : Nat} {w w' : World} {v : Value} {l : List Per} (h : POwn e B w v l) (hb : Below w.heap.size w w') : POwn e B w' v l := ⟨own_more h.own hb, Nat.le_trans h.base hb.size⟩
theorem POwn.alloc {e : TypeId} {B : Nat} {w : World} {v : Value} {l : List Per} (h : POwn e B w v l) (o : Obj) : POwn e B (w.alloc o) v l := h.more (bel_alloc w o)

theorem info_int : (Tryz.prog.info? 3).map (fun i => (i.zero, i.size, i.bytes)) = some (some (.int .i64 0), 1, 8) := by kernel_rfl
section
/-- 'append(v, x)' for numbers: one way on -/
theorem wpList_iapp {B : Nat} {w : World} {ops : Array Oper} {rest : List Oper} {o : Oper} {a : Act} {Q : Exit → Act → World → Prop} (hgd : o.guard = none) (s x : Operand)
    (ho : o.op = .call { callee := .builtin .append, args := #[s, x], argTypes := #[69, 69] }) (v : Value) (l : List Int) (hs : a.eval s = v) (h0 : IOwn 3 B w v l)
    (b : Nat) (new : Int) (c : Nat) (hx : a.eval x = .slice (some ⟨b, 0, none⟩) 1 c) (hb : w.heap[b]? = some (.cells #[.int .i64 new] 3 (0, 0)))
    (hlim : l.length ≤ 1000000000)
    (h : ∀ v' w', IOwn 3 B w' v' (l ++ [new]) → Below B w w' → wpList Tryz.prog ops Q rest (a.put o.dst v') w') : wpList Tryz.prog ops Q (o :: rest) a w := by
  obtain ⟨i, hi, hz, hz1, hz2⟩ := info_parts info_int
  refine wpList_append_lies w hgd s x 69 ho B 3 i (.int .i64 0) 1 8 Tryz.underlying69 hi hz hz1 hz2 rfl (by omega) v l.length (l.map (Value.int .i64)) hs h0.own ⟨b, 0, none⟩ 1 c [.int .i64 new] hx
    rfl ?_ (by intro u hu; simp at hu; subst hu; rfl) (by omega) (by unfold maxLen; omega) (by omega) h0.base w.heap.size rfl ?_
  · exact World.news_of_block (cs := #[.int .i64 new]) hb
  · intro g cap w' hown hgrow _ _
    refine h _ _ ⟨?_, Nat.le_trans h0.base hgrow.size⟩ ((Below.refl B w).grown hgrow h0.base (own_below' h0.own))
    rw [List.map_append, List.length_append]
    exact hown
end

end Go.Proofs.YtldillnjnjkkgaaGreatDoor.Per

/- Walks of the three loops over the days of a period: Count, Days, Normal. -/
namespace Go.Proofs.YtldillnjnjkkgaaGreatDoor.Per
open Go.RowKit Go.Shelf
set_option linter.unusedSimpArgs false
set_option linter.unusedVariables false
attribute [local go_sem] Oper.semAt_some
attribute [local simp] wide_fn

/-- 'a block holds these cells' speaks of cells alone -/
theorem cells_own {β : Type} (B : Nat) (t : TypeId) (g : β → Array Value) : Own (fun s W => W.heap[B]? = some (.cells (g s) t (0, 0))) := fun s X Y row hs hg hrow =>
  (hg.block B (Array.getElem?_eq_some_iff.1 hs).1 (fun e' => by obtain ⟨o, ho, hc⟩ := hrow B e'.symm; rw [hs] at ho; cases ho; cases hc)).trans hs
theorem boxAt_own {β : Type} (B : Nat) (p : Per) : Own (fun (_ : β) W => BoxAt W B p) := cells_own B perT fun _ => #[.int .i64 p.1, .int .i64 p.2.1, .int .i64 p.2.2]
theorem zip_one (t : Array Value) (n : Nat) (v : Value) : Array.foldl (fun (t : Array Value) (x : Nat × Value) => t.setIfInBounds x.1 x.2) t (#[n].zip #[v]) = t.setIfInBounds n v := by simp
theorem BoxAt.set {W : World} {B B' : Nat} {p : Per} (h : BoxAt W B p) (hne : B ≠ B') (j : Nat) (u : Value) : BoxAt (W.setCell ⟨B', j, none⟩ u) B p := (Below.heap_setCell _ _ _ B hne).trans h

theorem BoxAt.not_row {W : World} {B : Nat} {p : Per} (h : BoxAt W B p) {e : TypeId} (hte : perT ≠ e) {base size k : Nat} {v : Value} {xs : List Value} (hr : W.ownsRow base e size v k xs) : some B ≠ v.ownBlock := by
  rcases hr.2 with ⟨rfl, _⟩ | ⟨g, cap, cur, rfl, _, hgb, _⟩
  · simp [Value.ownBlock]
  · intro e'
    obtain rfl : B = g := by simpa [Value.ownBlock] using e'
    have := (show W.heap[B]? = _ from h).symm.trans hgb
    simp at this
    exact hte this.2

set_option maxRecDepth 100000 in
set_option maxHeartbeats 2000000 in
theorem days_in (p : Per) (w : World) : CallsIn Fence.wide 10 Tryz.prog 98 #[encQ p] w fun e W' => ∃ v, e = .returned v ∧ W'.ownsRow w.heap.size 3 1 v (daysQ p).length ((daysQ p).map (Value.int .i64)) ∧ Below w.heap.size w W' := by
  obtain ⟨i0, hi, hz0, hz1, hz2⟩ := info_parts info_int
  refine callsIn_of_wp_marks Tryz.func98 rfl trivial ?_ rfl
  simp only [Tryz.ntmps98, List.size_toArray, List.length_cons, List.length_nil, Nat.reduceAdd, Nat.reduceSub, Array.replicate_succ, Array.replicate_zero, List.push_toArray, List.append_toArray, List.nil_append, List.cons_append]
  gi_wp2_with (gi_at_call 177; refine (each_any p _).mono ?_; rintro e w' ⟨rfl, rfl⟩)
  obtain ⟨W0, hW0⟩ : ∃ W0, W0 = ((w.alloc (.cells #[.int .i64 p.1, .int .i64 p.2.1, .int .i64 p.2.2] perT)).alloc (.cells #[.slice none 0 0] 69)).alloc (.cells #[.int .i64 p.1, .int .i64 p.2.1, .int .i64 p.2.2] perT) := ⟨_, rfl⟩
  have hsz : W0.heap.size = w.heap.size + 3 := by rw [hW0]; simp
  have bP : BoxAt W0 (w.heap.size + 1 + 1) p := by
    rw [hW0]
    have h := heap_alloc_new ((w.alloc (.cells #[.int .i64 p.1, .int .i64 p.2.1, .int .i64 p.2.2] perT)).alloc (.cells #[.slice none 0 0] 69)) (.cells #[.int .i64 p.1, .int .i64 p.2.1, .int .i64 p.2.2] perT)
    simp only [World.size_alloc] at h
    exact h
  have bN : Boxed W0 (w.heap.size + 1) 69 (.slice none 0 0) := by
    rw [hW0]
    have h := Boxed.new (w.alloc (.cells #[.int .i64 p.1, .int .i64 p.2.1, .int .i64 p.2.2] perT)) 69 (.slice none 0 0)
    simp only [World.size_alloc] at h
    exact h.alloc _
  have hB0 : Below w.heap.size w W0 := by
    rw [hW0]
    exact (((Below.refl _ w).alloc (Nat.le_refl _) _).alloc (by simp) _).alloc (by simp; omega) _
  rw [show ((w.alloc (.cells #[.int .i64 p.1, .int .i64 p.2.1, .int .i64 p.2.2] perT)).alloc (.cells #[.slice none 0 0] 69)).alloc (.cells #[.int .i64 p.1, .int .i64 p.2.1, .int .i64 p.2.2] perT) = W0 from hW0.symm]
  clear hW0
  refine wpIn_rangeFunc_ownG rfl (by omega) (gf := 230) (lb := #[.pointer (some ⟨w.heap.size + 1 + 1, 0, none⟩)]) rfl trivial (enters_of Tryz.func230 (by kernel_rfl) rfl)
    (each_stops (w.heap.size + 1 + 1) w.heap.size p W0 bP) kp_t (kp_b (by omega) (by omega)) (Below.refl _ _) (fun _ => rfl)
    (fun pre W => ((∃ v, Boxed W (w.heap.size + 1) 69 v ∧ W.ownsRow w.heap.size 3 1 v (vals pre).length ((vals pre).map (Value.int .i64)) ∧ True) ∧ BoxAt W (w.heap.size + 1 + 1) p) ∧ Below w.heap.size w W)
    (fun _ _ _ => False)
    (OwnFrom.and (OwnFrom.and (Own.from (holdsRow_own w.heap.size (w.heap.size + 1) 69 3 1 (fun pre : List Dy => (vals pre).length) (fun pre => (vals pre).map (Value.int .i64)) (fun _ _ => True)) _) (Own.from (boxAt_own _ p) _)) (ownFrom_below (Nat.le_refl _) (by omega)))
    (fun _ _ _ _ _ hs _ _ => hs)
    ⟨⟨⟨_, bN, World.ownsRow_nil _ _ _ _, trivial⟩, bP⟩, hB0⟩
    (fun x => { tmps := #[encQ p, .pointer (some ⟨w.heap.size, 0, none⟩), .slice none 0 0, .pointer (some ⟨w.heap.size + 1, 0, none⟩), .int .i64 x.1, encQ p, .func (.func 230) #[] #[.pointer (some ⟨w.heap.size + 1 + 1, 0, none⟩)], .int .i64 x.1, undef, undef, undef, undef, undef], defers := [] }) ?assign ?body ?done ?stop
  case assign =>
    intro l x W K hK
    dsimp only [encD]
    rw [zip_one]
    gi_wp2
    exact hK
  case body =>
    rintro l pre x W ⟨⟨⟨v, hv, hrow, _⟩, hbp⟩, hB⟩ hlt
    have hc := hv.cell
    have hpl : (vals pre).length < 800 := by rw [vals_len]; exact hlt
    have hle : w.heap.size ≤ w.heap.size + 1 := by omega
    gi_wp2_with (gi_at_builtin; refine wpListIn_append_own _ rfl _ _ 69 rfl w.heap.size 3 i0 (.int .i64 0) 1 8 Tryz.underlying69 hi hz0 hz1 hz2 rfl (by decide) _ _ _ rfl (hrow.alloc _) ⟨W.heap.size, 0, none⟩ 1 1 [.int .i64 x.1] rfl rfl (cell_one_new _ _ _) (by simp [Value.oneCell']) (by unfold maxLen; omega) (by omega) (by have := hB.size; simp; omega) ?_; intro v' w1 hown' hgrow _; obtain ⟨g', cap', rfl⟩ := ownsRow_succ hown'; obtain ⟨hv1, hv2, hr2, hk2, hb2⟩ := hv.appended (by decide) hrow hB.size hle hown' hgrow; have hP1 : BoxAt w1 (w.heap.size + 1 + 1) p := (hgrow.block _ (Nat.lt_of_lt_of_le hbp.lt (by simp)) (hbp.not_row (by decide) hrow)).trans ((bel_alloc W _).block _ hbp.lt |>.trans hbp); have hc1 := hv1.cell; have hf1 := hv1.frozen)
    refine ⟨hk2.from _, ⟨hb2, (hP1.set (by simp) 0 _).trans hbp.symm⟩, ⟨⟨_, hv2, ?_, trivial⟩, hP1.set (by simp) 0 _⟩, hB.trans hb2⟩
    rw [vals_snoc]
    simpa using hr2
  case done =>
    rintro D ys W hD hys ⟨⟨⟨v, hv, hrow, _⟩, hbp⟩, hB⟩ hK
    have hc := hv.cell
    gi_wp2
    refine ⟨by simp, .inl ⟨_, _, rfl, run_takeDeferred hK, ?_⟩⟩
    rw [hys] at hrow
    exact ⟨_, results_tmp rfl _ _ _, v, rfl, ownsRow_putObj hrow _ hK rfl, hB.trans (belowK_b (w := w) (Nat.le_refl _) W D _ _ (by omega) hK rfl rfl)⟩
  case stop =>
    rintro D c pre W _ _ h _
    exact h.elim

end Go.Proofs.YtldillnjnjkkgaaGreatDoor.Per
