/- Walks of the reference's Find and town. -/
import Derived.Test.YtkcdifanhdakhaaDoorPlaD
namespace Go.Proofs.YtkcdifanhdakhaaDoor
open Go.RowKit Go.Shelf
set_option linter.unusedSimpArgs false
set_option linter.unusedVariables false

theorem find_at {q : Air → Bool} {l : List Air} {k : Nat} {a : Air} (h : (l.take k).find? q = none) (hk : l[k]? = some a) : (q a = true → l.find? q = some a) ∧ (q a = false → (l.take (k + 1)).find? q = none) := by
  obtain ⟨hlt, rfl⟩ := List.getElem?_eq_some_iff.1 hk
  constructor
  · intro hp
    have e : l.take k ++ l.drop k = l := List.take_append_drop k l
    rw [List.drop_eq_getElem_cons hlt] at e
    have e2 : (l.take k ++ l[k] :: l.drop (k + 1)).find? q = some l[k] := by rw [List.find?_append, h, List.find?_cons, hp]; rfl
    rwa [e] at e2
  · intro hp
    rw [List.take_add_one, hk, List.find?_append, h]
    simp [hp]

set_option maxRecDepth 100000 in
set_option maxHeartbeats 4000000 in
theorem rfind_any (p : PV) (s : ByteArray) (w : World) (hl : p.l.length ≤ 40) (hL : AirL w p.A p.l) :
    Calls Tryd.prog 11 #[encP p, .string s] w fun e w' => e = .returned (.tuple #[encA ((findC p.l s).getD airZ), .bool (findC p.l s).isSome]) ∧ Below w.heap.size w w' := by
  obtain ⟨A, ca, l, D, cd, ds⟩ := p
  dsimp only at *
  have hb1 := bel_alloc w (.cells #[.slice A l.length ca, .slice D ds.length cd] placesT)
  have hb0 : Below w.heap.size w ((w.alloc (.cells #[.slice A l.length ca, .slice D ds.length cd] placesT)).alloc (.cells #[.string noB, .string noB, .string noB, .int .i64 0, .slice none 0 0] airT)) := hb1.alloc hb1.size _
  have hb2 := bel_alloc (w.alloc (.cells #[.slice A l.length ca, .slice D ds.length cd] placesT)) (.cells #[.string noB, .string noB, .string noB, .int .i64 0, .slice none 0 0] airT)
  have p0 := bel_cell hb2 ((cells_new w #[.slice A l.length ca, .slice D ds.length cd] placesT 0).trans (show _ = some _ from rfl))
  have p1 := bel_cell hb2 ((cells_new w #[.slice A l.length ca, .slice D ds.length cd] placesT 1).trans (show _ = some _ from rfl))
  have hN := heap_alloc_new (w.alloc (.cells #[.slice A l.length ca, .slice D ds.length cd] placesT)) (.cells #[.string noB, .string noB, .string noB, .int .i64 0, .slice none 0 0] airT)
  simp only [World.size_alloc] at hN
  have hL5 := hL.more hb0
  go_enter Tryd.func11, Tryd.ntmps11
  generalize hw5 : (w.alloc (.cells #[.slice A l.length ca, .slice D ds.length cd] placesT)).alloc (.cells #[.string noB, .string noB, .string noB, .int .i64 0, .slice none 0 0] airT) = w5 at *
  have hNl : w.heap.size + 1 < w5.heap.size := (Array.getElem?_eq_some_iff.1 hN).1
  have n0 := (cell_of_row w5 _ 0 _ _ (0, 0) hN).trans (show _ = some _ from rfl)
  have n1 := (cell_of_row w5 _ 1 _ _ (0, 0) hN).trans (show _ = some _ from rfl)
  have n2 := (cell_of_row w5 _ 2 _ _ (0, 0) hN).trans (show _ = some _ from rfl)
  have n3 := (cell_of_row w5 _ 3 _ _ (0, 0) hN).trans (show _ = some _ from rfl)
  have n4 := (cell_of_row w5 _ 4 _ _ (0, 0) hN).trans (show _ = some _ from rfl)
  have z0 := frozen_of_row w5 _ 0 _ _ hN
  have z1 := frozen_of_row w5 _ 1 _ _ hN
  have z2 := frozen_of_row w5 _ 2 _ _ hN
  have z3 := frozen_of_row w5 _ 3 _ _ hN
  have z4 := frozen_of_row w5 _ 4 _ _ hN
  have HN := Lib.hid hN
  have HB := Lib.hid hb0
  clear hb1 hb2 hN hb0 hL
  go_wp2
  go_loop [6] (fun vi => ∃ k : Nat, k ≤ l.length ∧ vi = .int .i64 k ∧ Hid ((l.take k).find? (fun a => eqS a.code s) = none)) (fun vi => l.length - (intOf vi).toNat)
  case atStart => exact ⟨0, Nat.zero_le _, rfl, Lib.hid rfl⟩
  case round =>
    obtain ⟨k, hk, rfl, HK⟩ := hrel
    by_cases hlt : k < l.length
    · obtain ⟨b, o, a, rfl, hgl, hka, ha⟩ := hL5.at hlt
      have i2 : (k : Int) < (l.length : Int) := by omega
      obtain ⟨a0, a1, a2, a3, a4, ash⟩ := ha
      have hf := Lib.hid (find_at HK.out hka)
      cases he : (a.code.toList == s.toList)
      · have HX := Lib.hid (hf.out.2 he)
        clear hka ash
        go_wp2
        go_round
        case rel => exact ⟨k + 1, by omega, by go_num, HX⟩
        case measure => simp [intOf]; omega
      · have HR : Hid (findC l s = some a) := Lib.hid (hf.out.1 he)
        clear hka ash hL5
        go_wp2
        have hx := S5.heap HN.out (.string a.code) (.string a.city) (.string a.land) (.int .i64 a.off) (.slice a.A a.shs.length a.c)
        have hbt := S5.but w5 (w.heap.size + 1) (.string a.code) (.string a.city) (.string a.land) (.int .i64 a.off) (.slice a.A a.shs.length a.c)
        have c0 := (cell_of_row _ _ 0 _ _ (0, 0) hx).trans (show _ = some _ from rfl)
        have c1 := (cell_of_row _ _ 1 _ _ (0, 0) hx).trans (show _ = some _ from rfl)
        have c2 := (cell_of_row _ _ 2 _ _ (0, 0) hx).trans (show _ = some _ from rfl)
        have c3 := (cell_of_row _ _ 3 _ _ (0, 0) hx).trans (show _ = some _ from rfl)
        have c4 := (cell_of_row _ _ 4 _ _ (0, 0) hx).trans (show _ = some _ from rfl)
        have hbw : Below w.heap.size w (S5 w5 (w.heap.size + 1) (.string a.code) (.string a.city) (.string a.land) (.int .i64 a.off) (.slice a.A a.shs.length a.c)) := HB.out.trans (hbt.below HB.out.size (fun k hk => by omega))
        refine bodyPost_ret (v := .tuple #[encA a, .bool true]) ?_ rfl ⟨by rw [HR.out]; rfl, hbw⟩
        change (results _ _).run Tryd.prog (S5 w5 (w.heap.size + 1) (.string a.code) (.string a.city) (.string a.land) (.int .i64 a.off) (.slice a.A a.shs.length a.c)) = .ok _ (S5 w5 (w.heap.size + 1) (.string a.code) (.string a.city) (.string a.land) (.int .i64 a.off) (.slice a.A a.shs.length a.c))
        generalize S5 w5 (w.heap.size + 1) (.string a.code) (.string a.city) (.string a.land) (.int .i64 a.off) (.slice a.A a.shs.length a.c) = W at c0 c1 c2 c3 c4 ⊢
        simp [results, Tryd.results11, go_sem, c0, c1, c2, c3, c4]
    · have HR : Hid (findC l s = none) := Lib.hid (by have h := HK.out; rwa [List.take_of_length_le (by omega)] at h)
      clear hL5
      go_wp2
      have hx := S5.heap HN.out (.string noB) (.string noB) (.string noB) (.int .i64 0) (.slice none 0 0)
      have hbt := S5.but w5 (w.heap.size + 1) (.string noB) (.string noB) (.string noB) (.int .i64 0) (.slice none 0 0)
      have c0 := (cell_of_row _ _ 0 _ _ (0, 0) hx).trans (show _ = some _ from rfl)
      have c1 := (cell_of_row _ _ 1 _ _ (0, 0) hx).trans (show _ = some _ from rfl)
      have c2 := (cell_of_row _ _ 2 _ _ (0, 0) hx).trans (show _ = some _ from rfl)
      have c3 := (cell_of_row _ _ 3 _ _ (0, 0) hx).trans (show _ = some _ from rfl)
      have c4 := (cell_of_row _ _ 4 _ _ (0, 0) hx).trans (show _ = some _ from rfl)
      have hbw : Below w.heap.size w (S5 w5 (w.heap.size + 1) (.string noB) (.string noB) (.string noB) (.int .i64 0) (.slice none 0 0)) := HB.out.trans (hbt.below HB.out.size (fun k hk => by omega))
      refine bodyPost_ret (v := .tuple #[encA airZ, .bool false]) ?_ rfl ⟨by rw [HR.out]; rfl, hbw⟩
      change (results _ _).run Tryd.prog (S5 w5 (w.heap.size + 1) (.string noB) (.string noB) (.string noB) (.int .i64 0) (.slice none 0 0)) = .ok _ (S5 w5 (w.heap.size + 1) (.string noB) (.string noB) (.string noB) (.int .i64 0) (.slice none 0 0))
      generalize S5 w5 (w.heap.size + 1) (.string noB) (.string noB) (.string noB) (.int .i64 0) (.slice none 0 0) = W at c0 c1 c2 c3 c4 ⊢
      simp [results, Tryd.results11, go_sem, c0, c1, c2, c3, c4, airZ]

set_option maxRecDepth 100000 in
set_option maxHeartbeats 4000000 in
theorem rtown_any (p : PV) (s : ByteArray) (w : World) (hl : p.l.length ≤ 40) (hL : AirL w p.A p.l) :
    Calls Tryd.prog 49 #[encP p, .string s] w fun e w' => e = .returned (.tuple #[encA ((findT p.l s).getD airZ), .bool (findT p.l s).isSome]) ∧ Below w.heap.size w w' := by
  obtain ⟨A, ca, l, D, cd, ds⟩ := p
  dsimp only at *
  have hb1 := bel_alloc w (.cells #[.slice A l.length ca, .slice D ds.length cd] placesT)
  have hb0 : Below w.heap.size w ((w.alloc (.cells #[.slice A l.length ca, .slice D ds.length cd] placesT)).alloc (.cells #[.string noB, .string noB, .string noB, .int .i64 0, .slice none 0 0] airT)) := hb1.alloc hb1.size _
  have hb2 := bel_alloc (w.alloc (.cells #[.slice A l.length ca, .slice D ds.length cd] placesT)) (.cells #[.string noB, .string noB, .string noB, .int .i64 0, .slice none 0 0] airT)
  have p0 := bel_cell hb2 ((cells_new w #[.slice A l.length ca, .slice D ds.length cd] placesT 0).trans (show _ = some _ from rfl))
  have p1 := bel_cell hb2 ((cells_new w #[.slice A l.length ca, .slice D ds.length cd] placesT 1).trans (show _ = some _ from rfl))
  have hN := heap_alloc_new (w.alloc (.cells #[.slice A l.length ca, .slice D ds.length cd] placesT)) (.cells #[.string noB, .string noB, .string noB, .int .i64 0, .slice none 0 0] airT)
  simp only [World.size_alloc] at hN
  have hL5 := hL.more hb0
  go_enter Tryd.func49, Tryd.ntmps49
  generalize hw5 : (w.alloc (.cells #[.slice A l.length ca, .slice D ds.length cd] placesT)).alloc (.cells #[.string noB, .string noB, .string noB, .int .i64 0, .slice none 0 0] airT) = w5 at *
  have hNl : w.heap.size + 1 < w5.heap.size := (Array.getElem?_eq_some_iff.1 hN).1
  have n0 := (cell_of_row w5 _ 0 _ _ (0, 0) hN).trans (show _ = some _ from rfl)
  have n1 := (cell_of_row w5 _ 1 _ _ (0, 0) hN).trans (show _ = some _ from rfl)
  have n2 := (cell_of_row w5 _ 2 _ _ (0, 0) hN).trans (show _ = some _ from rfl)
  have n3 := (cell_of_row w5 _ 3 _ _ (0, 0) hN).trans (show _ = some _ from rfl)
  have n4 := (cell_of_row w5 _ 4 _ _ (0, 0) hN).trans (show _ = some _ from rfl)
  have z0 := frozen_of_row w5 _ 0 _ _ hN
  have z1 := frozen_of_row w5 _ 1 _ _ hN
  have z2 := frozen_of_row w5 _ 2 _ _ hN
  have z3 := frozen_of_row w5 _ 3 _ _ hN
  have z4 := frozen_of_row w5 _ 4 _ _ hN
  have HN := Lib.hid hN
  have HB := Lib.hid hb0
  clear hb1 hb2 hN hb0 hL
  go_wp2
  go_loop [6] (fun vi => ∃ k : Nat, k ≤ l.length ∧ vi = .int .i64 k ∧ Hid ((l.take k).find? (fun a => eqS a.city s) = none)) (fun vi => l.length - (intOf vi).toNat)
  case atStart => exact ⟨0, Nat.zero_le _, rfl, Lib.hid rfl⟩
  case round =>
    obtain ⟨k, hk, rfl, HK⟩ := hrel
    by_cases hlt : k < l.length
    · obtain ⟨b, o, a, rfl, hgl, hka, ha⟩ := hL5.at hlt
      have i2 : (k : Int) < (l.length : Int) := by omega
      obtain ⟨a0, a1, a2, a3, a4, ash⟩ := ha
      have hf := Lib.hid (find_at HK.out hka)
      cases he : (a.city.toList == s.toList)
      · have HX := Lib.hid (hf.out.2 he)
        clear hka ash
        go_wp2
        go_round
        case rel => exact ⟨k + 1, by omega, by go_num, HX⟩
        case measure => simp [intOf]; omega
      · have HR : Hid (findT l s = some a) := Lib.hid (hf.out.1 he)
        clear hka ash hL5
        go_wp2
        have hx := S5.heap HN.out (.string a.code) (.string a.city) (.string a.land) (.int .i64 a.off) (.slice a.A a.shs.length a.c)
        have hbt := S5.but w5 (w.heap.size + 1) (.string a.code) (.string a.city) (.string a.land) (.int .i64 a.off) (.slice a.A a.shs.length a.c)
        have c0 := (cell_of_row _ _ 0 _ _ (0, 0) hx).trans (show _ = some _ from rfl)
        have c1 := (cell_of_row _ _ 1 _ _ (0, 0) hx).trans (show _ = some _ from rfl)
        have c2 := (cell_of_row _ _ 2 _ _ (0, 0) hx).trans (show _ = some _ from rfl)
        have c3 := (cell_of_row _ _ 3 _ _ (0, 0) hx).trans (show _ = some _ from rfl)
        have c4 := (cell_of_row _ _ 4 _ _ (0, 0) hx).trans (show _ = some _ from rfl)
        have hbw : Below w.heap.size w (S5 w5 (w.heap.size + 1) (.string a.code) (.string a.city) (.string a.land) (.int .i64 a.off) (.slice a.A a.shs.length a.c)) := HB.out.trans (hbt.below HB.out.size (fun k hk => by omega))
        refine bodyPost_ret (v := .tuple #[encA a, .bool true]) ?_ rfl ⟨by rw [HR.out]; rfl, hbw⟩
        change (results _ _).run Tryd.prog (S5 w5 (w.heap.size + 1) (.string a.code) (.string a.city) (.string a.land) (.int .i64 a.off) (.slice a.A a.shs.length a.c)) = .ok _ (S5 w5 (w.heap.size + 1) (.string a.code) (.string a.city) (.string a.land) (.int .i64 a.off) (.slice a.A a.shs.length a.c))
        generalize S5 w5 (w.heap.size + 1) (.string a.code) (.string a.city) (.string a.land) (.int .i64 a.off) (.slice a.A a.shs.length a.c) = W at c0 c1 c2 c3 c4 ⊢
        simp [results, Tryd.results49, go_sem, c0, c1, c2, c3, c4]
    · have HR : Hid (findT l s = none) := Lib.hid (by have h := HK.out; rwa [List.take_of_length_le (by omega)] at h)
      clear hL5
      go_wp2
      have hx := S5.heap HN.out (.string noB) (.string noB) (.string noB) (.int .i64 0) (.slice none 0 0)
      have hbt := S5.but w5 (w.heap.size + 1) (.string noB) (.string noB) (.string noB) (.int .i64 0) (.slice none 0 0)
      have c0 := (cell_of_row _ _ 0 _ _ (0, 0) hx).trans (show _ = some _ from rfl)
      have c1 := (cell_of_row _ _ 1 _ _ (0, 0) hx).trans (show _ = some _ from rfl)
      have c2 := (cell_of_row _ _ 2 _ _ (0, 0) hx).trans (show _ = some _ from rfl)
      have c3 := (cell_of_row _ _ 3 _ _ (0, 0) hx).trans (show _ = some _ from rfl)
      have c4 := (cell_of_row _ _ 4 _ _ (0, 0) hx).trans (show _ = some _ from rfl)
      have hbw : Below w.heap.size w (S5 w5 (w.heap.size + 1) (.string noB) (.string noB) (.string noB) (.int .i64 0) (.slice none 0 0)) := HB.out.trans (hbt.below HB.out.size (fun k hk => by omega))
      refine bodyPost_ret (v := .tuple #[encA airZ, .bool false]) ?_ rfl ⟨by rw [HR.out]; rfl, hbw⟩
      change (results _ _).run Tryd.prog (S5 w5 (w.heap.size + 1) (.string noB) (.string noB) (.string noB) (.int .i64 0) (.slice none 0 0)) = .ok _ (S5 w5 (w.heap.size + 1) (.string noB) (.string noB) (.string noB) (.int .i64 0) (.slice none 0 0))
      generalize S5 w5 (w.heap.size + 1) (.string noB) (.string noB) (.string noB) (.int .i64 0) (.slice none 0 0) = W at c0 c1 c2 c3 c4 ⊢
      simp [results, Tryd.results49, go_sem, c0, c1, c2, c3, c4, airZ]

end Go.Proofs.YtkcdifanhdakhaaDoor
