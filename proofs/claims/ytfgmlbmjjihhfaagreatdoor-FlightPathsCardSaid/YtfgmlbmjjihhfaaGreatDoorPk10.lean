/- Words and walks that the laws below ask: FliX, PlaR, PlaY, PlaZ, PlaQA, FliP, FliQ, ZonE. -/
import Derived.Deep.CutRange
import Derived.Deep.Onto
import Derived.Test.YtfgmlbmjjihhfaaGreatDoorPk3
import Derived.Test.YtfgmlbmjjihhfaaGreatDoorPk4
import Derived.Test.YtfgmlbmjjihhfaaGreatDoorPk7
import Derived.Test.YtfgmlbmjjihhfaaGreatDoorPk8
import Derived.Test.YtfgmlbmjjihhfaaGreatDoorPk9
/- Plain facts on flights without violations. -/
namespace Go.Proofs.YtfgmlbmjjihhfaaGreatDoor
open Go.RowKit Go.Shelf
set_option linter.unusedSimpArgs false
set_option linter.unusedVariables false

/-- places without violations have zones without violations -/
theorem chk_okZ {p : PV} (h : chkP p = []) : ∀ a ∈ p.l, OkZ a.off a.shs := by
  intro a ha
  obtain ⟨k, hk⟩ := List.getElem?_of_mem ha
  have h1 := chk_nil h k a hk
  have h2 := List.filter_eq_nil_iff.1 h1 (errZ a.off a.shs) (by simp [airE])
  exact errZ_ok (by simpa using h2)
theorem chk_few {p : PV} (h : chkP p = []) : ∀ a ∈ p.l, a.shs.length ≤ 300 := fun a ha => Nat.le_trans (chk_okZ h a ha).len (by omega)
/-- without a violation of legs all times are in bounds, and each leg continues those before it -/
theorem lgs_at {l : List Air} {lg : List Lg} (h : lgsF l lg lg.length = []) {k : Nat} {x : Lg} (hk : lg[k]? = some x) : okE (lgEs l (lg.take k) x) = [] := by
  have hlt := (List.getElem?_eq_some_iff.1 hk).1
  unfold lgsF at h
  have h2 := List.flatMap_eq_nil_iff.1 h k (List.mem_range.2 hlt)
  rw [hk] at h2
  simpa [pick] using h2
theorem lgs_times {l : List Air} {lg : List Lg} (h : lgsF l lg lg.length = []) {x : Lg} (hx : x ∈ lg) : (-1000000 ≤ x.dep ∧ x.dep ≤ 1000000) ∧ -1000000 ≤ x.arr ∧ x.arr ≤ 1000000 := by
  obtain ⟨k, hk⟩ := List.getElem?_of_mem hx
  have h3 := lgs_at h hk
  have h4 : (if (!(minB x.dep && minB x.arr)) = true then (2 : Int) else 0) = 0 := by
    have := List.filter_eq_nil_iff.1 h3 (if (!(minB x.dep && minB x.arr)) = true then (2 : Int) else 0) (by simp [lgEs])
    simpa using this
  cases h5 : minB x.dep <;> cases h6 : minB x.arr <;> rw [h5, h6] at h4 <;> simp at h4
  have m1 := min_bd h5
  have m2 := min_bd h6
  omega
theorem lgs_next {l : List Air} {lg : List Lg} (h : lgsF l lg lg.length = []) {k : Nat} {x : Lg} (hk : lg[k]? = some x) : nextB (lg.take k) x = true := by
  have h3 := lgs_at h hk
  have h4 : (if (!nextB (lg.take k) x) = true then (15 : Int) else 0) = 0 := by
    have := List.filter_eq_nil_iff.1 h3 (if (!nextB (lg.take k) x) = true then (15 : Int) else 0) (by simp [lgEs])
    simpa using this
  cases h5 : nextB (lg.take k) x
  · rw [h5] at h4; simp at h4
  · rfl
theorem lgs_meet {l : List Air} {lg : List Lg} (h : lgsF l lg lg.length = []) {k : Nat} {x y : Lg} (hk : lg[k]? = some x) (h0 : k ≠ 0) (hy : lg[k - 1]? = some y) : (x.f.toList == y.t.toList) = true := by
  have h3 := lgs_next h hk
  unfold nextB at h3
  rw [Bool.and_eq_true] at h3
  have hlt := (List.getElem?_eq_some_iff.1 hk).1
  have h4 := h3.1
  unfold badF at h4
  rw [List.getLast?_eq_getElem?, List.length_take, Nat.min_eq_left (by omega), List.getElem?_take, if_pos (by omega), hy] at h4
  simpa using h4
theorem chF_nil {l : List Air} {f : FV} (h : chF l f = []) : cntB f.lg.length = true ∧ hdF f = [] ∧ lgsF l f.lg f.lg.length = [] ∧ timF l f = [] := by
  unfold chF at h
  by_cases hc : cntB f.lg.length = true
  · rw [if_pos hc] at h
    by_cases h0 : (hdF f ++ lgsF l f.lg f.lg.length).length = 0
    · rw [if_pos h0] at h
      have h1 := List.eq_nil_of_length_eq_zero h0
      exact ⟨hc, (List.append_eq_nil_iff.1 h1).1, (List.append_eq_nil_iff.1 h1).2, h⟩
    · rw [if_neg h0] at h
      rw [h] at h0
      exact absurd rfl h0
  · rw [if_neg hc] at h
    have := (List.append_eq_nil_iff.1 h).2
    simp [pick, okE] at this
theorem badD_all {l : List Air} {lg : List Lg} : ∀ {D : List Int}, badD l lg D = [] → ∀ d ∈ D, ordT true 0 (timL l lg d) = true
  | [], _, d, hd => by simp at hd
  | e :: r, h, d, hd => by
    unfold badD at h
    cases ho : ordT true 0 (timL l lg e)
    · rw [ho] at h; simp at h
    · rw [ho] at h
      rcases List.mem_cons.1 hd with rfl | hd
      · exact ho
      · exact badD_all (by simpa using h) d hd
theorem ordT_all : ∀ (L : List (Int × Int)) (first : Bool) (before : Int), ordT first before L = true → ∀ (k : Nat) (d a : Int), L[k]? = some (d, a) → d < a ∧ (k = 0 → first = false → before ≤ d) ∧ (∀ d' a', k ≠ 0 → L[k - 1]? = some (d', a') → a' ≤ d)
  | [], _, _, _, k, d, a, hk => by simp at hk
  | (d0, a0) :: r, first, before, h, k, d, a, hk => by
    unfold ordT at h
    by_cases h1 : a0 ≤ d0
    · rw [if_pos h1] at h; cases h
    rw [if_neg h1] at h
    by_cases h2 : first = false ∧ d0 < before
    · rw [if_pos h2] at h; cases h
    rw [if_neg h2] at h
    match k, hk with
    | 0, hk =>
      simp at hk
      obtain ⟨rfl, rfl⟩ := hk
      exact ⟨by omega, fun _ hf => by by_cases h3 : d0 < before; exact absurd ⟨hf, h3⟩ h2; omega, fun _ _ h0 => absurd rfl h0⟩
    | k + 1, hk =>
      have hk2 : r[k]? = some (d, a) := by simpa using hk
      obtain ⟨r1, r2, r3⟩ := ordT_all r false a0 h k d a hk2
      refine ⟨r1, fun h0 => by omega, fun d' a' _ hy => ?_⟩
      match k, r2, r3, hy with
      | 0, r2, r3, hy =>
        simp at hy
        obtain ⟨rfl, rfl⟩ := hy
        exact r2 rfl rfl
      | j + 1, r2, r3, hy => exact r3 d' a' (by omega) (by simpa using hy)
/-- on a day of a flight without violations the times of its legs are ordered -/
theorem chF_ord {l : List Air} {f : FV} (h : chF l f = []) {day : Int} (hd : Per.hasQ (f.pf, f.pt, f.pd) day = true) {k : Nat} {x : Lg} (hk : f.lg[k]? = some x) :
    depL l x day < arrL l x day ∧ (∀ y, k ≠ 0 → f.lg[k - 1]? = some y → arrL l y day ≤ depL l x day) := by
  have h1 := (chF_nil h).2.2.2
  have h2 := badD_all h1 day ((Per.daysQ_mem _ _).2 hd)
  have h3 := ordT_all _ _ _ h2 k (depL l x day) (arrL l x day) (by unfold timL; rw [List.getElem?_map, hk]; rfl)
  exact ⟨h3.1, fun y h0 hy => h3.2.2 (depL l y day) (arrL l y day) h0 (by unfold timL; rw [List.getElem?_map, hy]; rfl)⟩

end Go.Proofs.YtfgmlbmjjihhfaaGreatDoor

/- Walks of the reference's Find and town. -/
namespace Go.Proofs.YtfgmlbmjjihhfaaGreatDoor
open Go.RowKit Go.Shelf
set_option linter.unusedSimpArgs false
set_option linter.unusedVariables false

theorem find_at {q : Air → Bool} {l : List Air} {k : Nat} {a : Air} (h : (l.take k).find? q = none) (hk : l[k]? = some a) : (q a = true → l.find? q = some a) ∧ (q a = false → (l.take (k + 1)).find? q = none) := by
  obtain ⟨hlt, rfl⟩ := List.getElem?_eq_some_iff.1 hk
  constructor
  · intro hp
    have e : l.take k ++ l.drop k = l := List.take_append_drop k l
    rw [List.drop_eq_getElem_cons hlt] at e
    have e2 : (l.take k ++ l[k] :: l.drop (k + 1)).find? q = some l[k] := by rw [List.find?_append, h, List.find?_cons, hp]; rfl
    rwa [e] at e2
  · intro hp
    rw [List.take_add_one, hk, List.find?_append, h]
    simp [hp]

set_option maxRecDepth 100000 in
set_option maxHeartbeats 4000000 in
theorem rfind_any (p : PV) (s : ByteArray) (w : World) (hl : p.l.length ≤ 40) (hL : AirL w p.A p.l) :
    Calls Tryz.prog 64 #[encP p, .string s] w fun e w' => e = .returned (.tuple #[encA ((findC p.l s).getD airZ), .bool (findC p.l s).isSome]) ∧ Below w.heap.size w w' := by
  obtain ⟨A, ca, l, D, cd, ds⟩ := p
  dsimp only at *
  have hb1 := bel_alloc w (.cells #[.slice A l.length ca, .slice D ds.length cd] placesT)
  have hb0 : Below w.heap.size w ((w.alloc (.cells #[.slice A l.length ca, .slice D ds.length cd] placesT)).alloc (.cells #[.string noB, .string noB, .string noB, .int .i64 0, .slice none 0 0] airT)) := hb1.alloc hb1.size _
  have hb2 := bel_alloc (w.alloc (.cells #[.slice A l.length ca, .slice D ds.length cd] placesT)) (.cells #[.string noB, .string noB, .string noB, .int .i64 0, .slice none 0 0] airT)
  have p0 := bel_cell hb2 ((cells_new w #[.slice A l.length ca, .slice D ds.length cd] placesT 0).trans (show _ = some _ from rfl))
  have p1 := bel_cell hb2 ((cells_new w #[.slice A l.length ca, .slice D ds.length cd] placesT 1).trans (show _ = some _ from rfl))
  have hN := heap_alloc_new (w.alloc (.cells #[.slice A l.length ca, .slice D ds.length cd] placesT)) (.cells #[.string noB, .string noB, .string noB, .int .i64 0, .slice none 0 0] airT)
  simp only [World.size_alloc] at hN
  have hL5 := hL.more hb0
  go_enter Tryz.func64, Tryz.ntmps64
  generalize hw5 : (w.alloc (.cells #[.slice A l.length ca, .slice D ds.length cd] placesT)).alloc (.cells #[.string noB, .string noB, .string noB, .int .i64 0, .slice none 0 0] airT) = w5 at *
  have hNl : w.heap.size + 1 < w5.heap.size := (Array.getElem?_eq_some_iff.1 hN).1
  have n0 := (cell_of_row w5 _ 0 _ _ (0, 0) hN).trans (show _ = some _ from rfl)
  have n1 := (cell_of_row w5 _ 1 _ _ (0, 0) hN).trans (show _ = some _ from rfl)
  have n2 := (cell_of_row w5 _ 2 _ _ (0, 0) hN).trans (show _ = some _ from rfl)
  have n3 := (cell_of_row w5 _ 3 _ _ (0, 0) hN).trans (show _ = some _ from rfl)
  have n4 := (cell_of_row w5 _ 4 _ _ (0, 0) hN).trans (show _ = some _ from rfl)
  have z0 := frozen_of_row w5 _ 0 _ _ hN
  have z1 := frozen_of_row w5 _ 1 _ _ hN
  have z2 := frozen_of_row w5 _ 2 _ _ hN
  have z3 := frozen_of_row w5 _ 3 _ _ hN
  have z4 := frozen_of_row w5 _ 4 _ _ hN
  have HN := Lib.hid hN
  have HB := Lib.hid hb0
  clear hb1 hb2 hN hb0 hL
  go_wp2
  go_loop [6] (fun vi => ∃ k : Nat, k ≤ l.length ∧ vi = .int .i64 k ∧ Hid ((l.take k).find? (fun a => eqS a.code s) = none)) (fun vi => l.length - (intOf vi).toNat)
  case atStart => exact ⟨0, Nat.zero_le _, rfl, Lib.hid rfl⟩
  case round =>
    obtain ⟨k, hk, rfl, HK⟩ := hrel
    by_cases hlt : k < l.length
    · obtain ⟨b, o, a, rfl, hgl, hka, ha⟩ := hL5.at hlt
      have i2 : (k : Int) < (l.length : Int) := by omega
      obtain ⟨a0, a1, a2, a3, a4, ash⟩ := ha
      have hf := Lib.hid (find_at HK.out hka)
      cases he : (a.code.toList == s.toList)
      · have HX := Lib.hid (hf.out.2 he)
        clear hka ash
        go_wp2
        go_round
        case rel => exact ⟨k + 1, by omega, by go_num, HX⟩
        case measure => simp [intOf]; omega
      · have HR : Hid (findC l s = some a) := Lib.hid (hf.out.1 he)
        clear hka ash hL5
        go_wp2
        have hx := S5.heap HN.out (.string a.code) (.string a.city) (.string a.land) (.int .i64 a.off) (.slice a.A a.shs.length a.c)
        have hbt := S5.but w5 (w.heap.size + 1) (.string a.code) (.string a.city) (.string a.land) (.int .i64 a.off) (.slice a.A a.shs.length a.c)
        have c0 := (cell_of_row _ _ 0 _ _ (0, 0) hx).trans (show _ = some _ from rfl)
        have c1 := (cell_of_row _ _ 1 _ _ (0, 0) hx).trans (show _ = some _ from rfl)
        have c2 := (cell_of_row _ _ 2 _ _ (0, 0) hx).trans (show _ = some _ from rfl)
        have c3 := (cell_of_row _ _ 3 _ _ (0, 0) hx).trans (show _ = some _ from rfl)
        have c4 := (cell_of_row _ _ 4 _ _ (0, 0) hx).trans (show _ = some _ from rfl)
        have hbw : Below w.heap.size w (S5 w5 (w.heap.size + 1) (.string a.code) (.string a.city) (.string a.land) (.int .i64 a.off) (.slice a.A a.shs.length a.c)) := HB.out.trans (hbt.below HB.out.size (fun k hk => by omega))
        refine bodyPost_ret (v := .tuple #[encA a, .bool true]) ?_ rfl ⟨by rw [HR.out]; rfl, hbw⟩
        change (results _ _).run Tryz.prog (S5 w5 (w.heap.size + 1) (.string a.code) (.string a.city) (.string a.land) (.int .i64 a.off) (.slice a.A a.shs.length a.c)) = .ok _ (S5 w5 (w.heap.size + 1) (.string a.code) (.string a.city) (.string a.land) (.int .i64 a.off) (.slice a.A a.shs.length a.c))
        generalize S5 w5 (w.heap.size + 1) (.string a.code) (.string a.city) (.string a.land) (.int .i64 a.off) (.slice a.A a.shs.length a.c) = W at c0 c1 c2 c3 c4 ⊢
        simp [results, Tryz.results64, go_sem, c0, c1, c2, c3, c4]
    · have HR : Hid (findC l s = none) := Lib.hid (by have h := HK.out; rwa [List.take_of_length_le (by omega)] at h)
      clear hL5
      go_wp2
      have hx := S5.heap HN.out (.string noB) (.string noB) (.string noB) (.int .i64 0) (.slice none 0 0)
      have hbt := S5.but w5 (w.heap.size + 1) (.string noB) (.string noB) (.string noB) (.int .i64 0) (.slice none 0 0)
      have c0 := (cell_of_row _ _ 0 _ _ (0, 0) hx).trans (show _ = some _ from rfl)
      have c1 := (cell_of_row _ _ 1 _ _ (0, 0) hx).trans (show _ = some _ from rfl)
      have c2 := (cell_of_row _ _ 2 _ _ (0, 0) hx).trans (show _ = some _ from rfl)
      have c3 := (cell_of_row _ _ 3 _ _ (0, 0) hx).trans (show _ = some _ from rfl)
      have c4 := (cell_of_row _ _ 4 _ _ (0, 0) hx).trans (show _ = some _ from rfl)
      have hbw : Below w.heap.size w (S5 w5 (w.heap.size + 1) (.string noB) (.string noB) (.string noB) (.int .i64 0) (.slice none 0 0)) := HB.out.trans (hbt.below HB.out.size (fun k hk => by omega))
      refine bodyPost_ret (v := .tuple #[encA airZ, .bool false]) ?_ rfl ⟨by rw [HR.out]; rfl, hbw⟩
      change (results _ _).run Tryz.prog (S5 w5 (w.heap.size + 1) (.string noB) (.string noB) (.string noB) (.int .i64 0) (.slice none 0 0)) = .ok _ (S5 w5 (w.heap.size + 1) (.string noB) (.string noB) (.string noB) (.int .i64 0) (.slice none 0 0))
      generalize S5 w5 (w.heap.size + 1) (.string noB) (.string noB) (.string noB) (.int .i64 0) (.slice none 0 0) = W at c0 c1 c2 c3 c4 ⊢
      simp [results, Tryz.results64, go_sem, c0, c1, c2, c3, c4, airZ]

set_option maxRecDepth 100000 in
set_option maxHeartbeats 4000000 in
theorem rtown_any (p : PV) (s : ByteArray) (w : World) (hl : p.l.length ≤ 40) (hL : AirL w p.A p.l) :
    Calls Tryz.prog 111 #[encP p, .string s] w fun e w' => e = .returned (.tuple #[encA ((findT p.l s).getD airZ), .bool (findT p.l s).isSome]) ∧ Below w.heap.size w w' := by
  obtain ⟨A, ca, l, D, cd, ds⟩ := p
  dsimp only at *
  have hb1 := bel_alloc w (.cells #[.slice A l.length ca, .slice D ds.length cd] placesT)
  have hb0 : Below w.heap.size w ((w.alloc (.cells #[.slice A l.length ca, .slice D ds.length cd] placesT)).alloc (.cells #[.string noB, .string noB, .string noB, .int .i64 0, .slice none 0 0] airT)) := hb1.alloc hb1.size _
  have hb2 := bel_alloc (w.alloc (.cells #[.slice A l.length ca, .slice D ds.length cd] placesT)) (.cells #[.string noB, .string noB, .string noB, .int .i64 0, .slice none 0 0] airT)
  have p0 := bel_cell hb2 ((cells_new w #[.slice A l.length ca, .slice D ds.length cd] placesT 0).trans (show _ = some _ from rfl))
  have p1 := bel_cell hb2 ((cells_new w #[.slice A l.length ca, .slice D ds.length cd] placesT 1).trans (show _ = some _ from rfl))
  have hN := heap_alloc_new (w.alloc (.cells #[.slice A l.length ca, .slice D ds.length cd] placesT)) (.cells #[.string noB, .string noB, .string noB, .int .i64 0, .slice none 0 0] airT)
  simp only [World.size_alloc] at hN
  have hL5 := hL.more hb0
  go_enter Tryz.func111, Tryz.ntmps111
  generalize hw5 : (w.alloc (.cells #[.slice A l.length ca, .slice D ds.length cd] placesT)).alloc (.cells #[.string noB, .string noB, .string noB, .int .i64 0, .slice none 0 0] airT) = w5 at *
  have hNl : w.heap.size + 1 < w5.heap.size := (Array.getElem?_eq_some_iff.1 hN).1
  have n0 := (cell_of_row w5 _ 0 _ _ (0, 0) hN).trans (show _ = some _ from rfl)
  have n1 := (cell_of_row w5 _ 1 _ _ (0, 0) hN).trans (show _ = some _ from rfl)
  have n2 := (cell_of_row w5 _ 2 _ _ (0, 0) hN).trans (show _ = some _ from rfl)
  have n3 := (cell_of_row w5 _ 3 _ _ (0, 0) hN).trans (show _ = some _ from rfl)
  have n4 := (cell_of_row w5 _ 4 _ _ (0, 0) hN).trans (show _ = some _ from rfl)
  have z0 := frozen_of_row w5 _ 0 _ _ hN
  have z1 := frozen_of_row w5 _ 1 _ _ hN
  have z2 := frozen_of_row w5 _ 2 _ _ hN
  have z3 := frozen_of_row w5 _ 3 _ _ hN
  have z4 := frozen_of_row w5 _ 4 _ _ hN
  have HN := Lib.hid hN
  have HB := Lib.hid hb0
  clear hb1 hb2 hN hb0 hL
  go_wp2
  go_loop [6] (fun vi => ∃ k : Nat, k ≤ l.length ∧ vi = .int .i64 k ∧ Hid ((l.take k).find? (fun a => eqS a.city s) = none)) (fun vi => l.length - (intOf vi).toNat)
  case atStart => exact ⟨0, Nat.zero_le _, rfl, Lib.hid rfl⟩
  case round =>
    obtain ⟨k, hk, rfl, HK⟩ := hrel
    by_cases hlt : k < l.length
    · obtain ⟨b, o, a, rfl, hgl, hka, ha⟩ := hL5.at hlt
      have i2 : (k : Int) < (l.length : Int) := by omega
      obtain ⟨a0, a1, a2, a3, a4, ash⟩ := ha
      have hf := Lib.hid (find_at HK.out hka)
      cases he : (a.city.toList == s.toList)
      · have HX := Lib.hid (hf.out.2 he)
        clear hka ash
        go_wp2
        go_round
        case rel => exact ⟨k + 1, by omega, by go_num, HX⟩
        case measure => simp [intOf]; omega
      · have HR : Hid (findT l s = some a) := Lib.hid (hf.out.1 he)
        clear hka ash hL5
        go_wp2
        have hx := S5.heap HN.out (.string a.code) (.string a.city) (.string a.land) (.int .i64 a.off) (.slice a.A a.shs.length a.c)
        have hbt := S5.but w5 (w.heap.size + 1) (.string a.code) (.string a.city) (.string a.land) (.int .i64 a.off) (.slice a.A a.shs.length a.c)
        have c0 := (cell_of_row _ _ 0 _ _ (0, 0) hx).trans (show _ = some _ from rfl)
        have c1 := (cell_of_row _ _ 1 _ _ (0, 0) hx).trans (show _ = some _ from rfl)
        have c2 := (cell_of_row _ _ 2 _ _ (0, 0) hx).trans (show _ = some _ from rfl)
        have c3 := (cell_of_row _ _ 3 _ _ (0, 0) hx).trans (show _ = some _ from rfl)
        have c4 := (cell_of_row _ _ 4 _ _ (0, 0) hx).trans (show _ = some _ from rfl)
        have hbw : Below w.heap.size w (S5 w5 (w.heap.size + 1) (.string a.code) (.string a.city) (.string a.land) (.int .i64 a.off) (.slice a.A a.shs.length a.c)) := HB.out.trans (hbt.below HB.out.size (fun k hk => by omega))
        refine bodyPost_ret (v := .tuple #[encA a, .bool true]) ?_ rfl ⟨by rw [HR.out]; rfl, hbw⟩
        change (results _ _).run Tryz.prog (S5 w5 (w.heap.size + 1) (.string a.code) (.string a.city) (.string a.land) (.int .i64 a.off) (.slice a.A a.shs.length a.c)) = .ok _ (S5 w5 (w.heap.size + 1) (.string a.code) (.string a.city) (.string a.land) (.int .i64 a.off) (.slice a.A a.shs.length a.c))
        generalize S5 w5 (w.heap.size + 1) (.string a.code) (.string a.city) (.string a.land) (.int .i64 a.off) (.slice a.A a.shs.length a.c) = W at c0 c1 c2 c3 c4 ⊢
        simp [results, Tryz.results111, go_sem, c0, c1, c2, c3, c4]
    · have HR : Hid (findT l s = none) := Lib.hid (by have h := HK.out; rwa [List.take_of_length_le (by omega)] at h)
      clear hL5
      go_wp2
      have hx := S5.heap HN.out (.string noB) (.string noB) (.string noB) (.int .i64 0) (.slice none 0 0)
      have hbt := S5.but w5 (w.heap.size + 1) (.string noB) (.string noB) (.string noB) (.int .i64 0) (.slice none 0 0)
      have c0 := (cell_of_row _ _ 0 _ _ (0, 0) hx).trans (show _ = some _ from rfl)
      have c1 := (cell_of_row _ _ 1 _ _ (0, 0) hx).trans (show _ = some _ from rfl)
      have c2 := (cell_of_row _ _ 2 _ _ (0, 0) hx).trans (show _ = some _ from rfl)
      have c3 := (cell_of_row _ _ 3 _ _ (0, 0) hx).trans (show _ = some _ from rfl)
      have c4 := (cell_of_row _ _ 4 _ _ (0, 0) hx).trans (show _ = some _ from rfl)
      have hbw : Below w.heap.size w (S5 w5 (w.heap.size + 1) (.string noB) (.string noB) (.string noB) (.int .i64 0) (.slice none 0 0)) := HB.out.trans (hbt.below HB.out.size (fun k hk => by omega))
      refine bodyPost_ret (v := .tuple #[encA airZ, .bool false]) ?_ rfl ⟨by rw [HR.out]; rfl, hbw⟩
      change (results _ _).run Tryz.prog (S5 w5 (w.heap.size + 1) (.string noB) (.string noB) (.string noB) (.int .i64 0) (.slice none 0 0)) = .ok _ (S5 w5 (w.heap.size + 1) (.string noB) (.string noB) (.string noB) (.int .i64 0) (.slice none 0 0))
      generalize S5 w5 (w.heap.size + 1) (.string noB) (.string noB) (.string noB) (.int .i64 0) (.slice none 0 0) = W at c0 c1 c2 c3 c4 ⊢
      simp [results, Tryz.results111, go_sem, c0, c1, c2, c3, c4, airZ]

end Go.Proofs.YtfgmlbmjjihhfaaGreatDoor

/- Walk of the reference's City. -/
namespace Go.Proofs.YtfgmlbmjjihhfaaGreatDoor
open Go.RowKit Go.Shelf
set_option linter.unusedSimpArgs false
set_option linter.unusedVariables false

end Go.Proofs.YtfgmlbmjjihhfaaGreatDoor

/- Walk of the reference's Country. -/
namespace Go.Proofs.YtfgmlbmjjihhfaaGreatDoor
open Go.RowKit Go.Shelf
set_option linter.unusedSimpArgs false
set_option linter.unusedVariables false

end Go.Proofs.YtfgmlbmjjihhfaaGreatDoor

/- Walk of the reference's airport. -/
namespace Go.Proofs.YtfgmlbmjjihhfaaGreatDoor
open Go.RowKit Go.Shelf
set_option linter.unusedSimpArgs false
set_option linter.unusedVariables false

abbrev errnT : TypeId := 38
def encE (x : Int) : List Value := [.int .i64 x]
theorem rtE : RT Tryz.prog 84 errnT 1 encE where
  ht := Tryz.underlying84
  info := ⟨.int .i64 0, 8, by kernel_rfl, rfl, by omega⟩
  len x := rfl
  one x u hu := by simp [encE] at hu; subst hu; rfl
  pos := by omega
abbrev EOwn (B : Nat) (w : World) (v : Value) (l : List Int) : Prop := ROwn errnT 1 encE B w v l
theorem rairp_any (s : ByteArray) (w : World) (hs : s.size ≤ maxLen) : Calls Tryz.prog 83 #[.string s] w fun e w' => e = .returned (.bool (capsB s 3)) ∧ w = w' := by
  go_enter Tryz.func83, Tryz.ntmps83
  go_wp2_with (go_at_call 142; refine (letters_any _ _ _ hs).mono ?_; rintro e w' ⟨rfl, rfl⟩)
  go_ret
  exact ⟨rfl, rfl⟩
theorem rland_any (s : ByteArray) (w : World) (hs : s.size ≤ maxLen) : Calls Tryz.prog 108 #[.string s] w fun e w' => e = .returned (.bool (capsB s 2)) ∧ w = w' := by
  go_enter Tryz.func108, Tryz.ntmps108
  go_wp2_with (go_at_call 142; refine (letters_any _ _ _ hs).mono ?_; rintro e w' ⟨rfl, rfl⟩)
  go_ret
  exact ⟨rfl, rfl⟩
theorem okE_app (a b : List Int) : okE (a ++ b) = okE a ++ okE b := by simp [okE]
theorem okE_one (e : Int) (h : e ≠ 0) : okE [e] = [e] := by simp [okE, h]
theorem any_take {α : Type} (q : α → Bool) (l : List α) (k : Nat) (a : α) (h : l[k]? = some a) : (l.take (k + 1)).any q = ((l.take k).any q || q a) := by
  rw [List.take_add_one, h, List.any_append]
  simp
theorem eqB (a b : ByteArray) : (a.toList == b.toList) = decide (a = b) := by
  by_cases h : a = b
  · subst h; simp
  · rw [decide_eq_false h]
    cases hh : (a.toList == b.toList) with
    | false => rfl
    | true => exact absurd ((eqS_iff a b).1 hh) h

set_option maxRecDepth 100000 in
set_option maxHeartbeats 8000000 in
theorem rairport_any (p : PV) (i : Nat) (a : Air) (w : World) (hp : OkP p) (hL : PlL w p) (hi : p.l[i]? = some a) :
    Calls Tryz.prog 47 #[encP p, .int .i64 (i : Int)] w fun e w' => ∃ v', e = .returned v' ∧ EOwn w.heap.size w' v' (okE (airE (p.l.take i) a)) ∧ Below w.heap.size w w' := by
  obtain ⟨A, ca, l, D, cd, ds⟩ := p
  obtain ⟨hA, hD, hla, hld⟩ := hp
  obtain ⟨hLa, hLd⟩ := hL
  dsimp only at *
  have hil := (List.getElem?_eq_some_iff.1 hi).1
  obtain ⟨bb, off, a', rfl, hgl, hka, ha⟩ := hLa.at hil
  rw [hi] at hka
  obtain rfl := Option.some.inj hka
  obtain ⟨s1, s2, s3, s4, s5⟩ := hA a (List.mem_of_getElem? hi)
  have hb1 := bel_alloc w (.cells #[.slice (some ⟨bb, off, none⟩) l.length ca, .slice D ds.length cd] placesT)
  have hb2 := bel_alloc (w.alloc (.cells #[.slice (some ⟨bb, off, none⟩) l.length ca, .slice D ds.length cd] placesT)) (.cells #[.string a.code, .string a.city, .string a.land, .int .i64 a.off, .slice a.A a.shs.length a.c] airT)
  have p0 := bel_cell hb2 ((cells_new w #[.slice (some ⟨bb, off, none⟩) l.length ca, .slice D ds.length cd] placesT 0).trans (show _ = some _ from rfl))
  have p1 := bel_cell hb2 ((cells_new w #[.slice (some ⟨bb, off, none⟩) l.length ca, .slice D ds.length cd] placesT 1).trans (show _ = some _ from rfl))
  have q0 := (cells_new (w.alloc (.cells #[.slice (some ⟨bb, off, none⟩) l.length ca, .slice D ds.length cd] placesT)) #[.string a.code, .string a.city, .string a.land, .int .i64 a.off, .slice a.A a.shs.length a.c] airT 0).trans (show _ = some _ from rfl)
  have q1 := (cells_new (w.alloc (.cells #[.slice (some ⟨bb, off, none⟩) l.length ca, .slice D ds.length cd] placesT)) #[.string a.code, .string a.city, .string a.land, .int .i64 a.off, .slice a.A a.shs.length a.c] airT 1).trans (show _ = some _ from rfl)
  have q2 := (cells_new (w.alloc (.cells #[.slice (some ⟨bb, off, none⟩) l.length ca, .slice D ds.length cd] placesT)) #[.string a.code, .string a.city, .string a.land, .int .i64 a.off, .slice a.A a.shs.length a.c] airT 2).trans (show _ = some _ from rfl)
  have q3 := (cells_new (w.alloc (.cells #[.slice (some ⟨bb, off, none⟩) l.length ca, .slice D ds.length cd] placesT)) #[.string a.code, .string a.city, .string a.land, .int .i64 a.off, .slice a.A a.shs.length a.c] airT 3).trans (show _ = some _ from rfl)
  have q4 := (cells_new (w.alloc (.cells #[.slice (some ⟨bb, off, none⟩) l.length ca, .slice D ds.length cd] placesT)) #[.string a.code, .string a.city, .string a.land, .int .i64 a.off, .slice a.A a.shs.length a.c] airT 4).trans (show _ = some _ from rfl)
  rw [World.size_alloc] at q0 q1 q2 q3 q4
  have hb0 := hb1.trans (hb2.mono hb1.size)
  have hLa5 := hLa.more hb0
  have hsh5 := ha.sh.more hb0
  have i1 : (i : Int) < (l.length : Int) := by omega
  have C1 := Lib.hid (fun w => rairp_any a.code w s1)
  have C2 := Lib.hid (fun w => rairp_any a.city w s2)
  have C3 := Lib.hid (fun w => rland_any a.land w s3)
  have HB : Hid (codesB a = (capsB a.code 3 && capsB a.city 3 && capsB a.land 2)) := Lib.hid rfl
  have HAE : Hid (airE (l.take i) a = [if codesB a then 0 else 5, if (l.take i).any (fun b => decide (b.code = a.code)) then 6 else 0, if (l.take i).any (fun b => decide (b.city = a.city) && !decide (b.land = a.land)) then 8 else 0, errZ a.off a.shs]) := Lib.hid rfl
  obtain ⟨a0, a1, a2, a3, a4, ash⟩ := ha
  go_enter Tryz.func47, Tryz.ntmps47
  go_upto_region 3 with fail
  clear a0 a1 a2 a3 a4 ash hLa hLd hgl hb1 hb2
  generalize hw5 : (w.alloc (.cells #[.slice (some ⟨bb, off, none⟩) l.length ca, .slice D ds.length cd] placesT)).alloc (.cells #[.string a.code, .string a.city, .string a.land, .int .i64 a.off, .slice a.A a.shs.length a.c] airT) = w5 at *
  clear hw5
  go_cut [31] from 16 (fun v wx => v = .bool (!codesB a) ∧ wx = w5)
  case first =>
    cases b1 : capsB a.code 3
    · rw [b1] at C1 HB
      go_wp2_with (go_at_call 83; refine (C1.out _).mono ?_; rintro e w' ⟨rfl, rfl⟩)
      go_meet
      exact ⟨by rw [HB.out]; rfl, rfl⟩
    rw [b1] at C1 HB
    cases b2 : capsB a.city 3
    · rw [b2] at C2 HB
      go_wp2_with (first | (go_at_call 83; with_reducible refine (C1.out _).mono ?_; rintro e w' ⟨rfl, rfl⟩) | (go_at_call 83; with_reducible refine (C2.out _).mono ?_; rintro e w' ⟨rfl, rfl⟩))
      all_goals
        go_meet
        exact ⟨by rw [HB.out]; rfl, rfl⟩
    rw [b2] at C2 HB
    cases b3 : capsB a.land 2 <;> rw [b3] at C3 HB <;>
    · go_wp2_with (first | (go_at_call 108; refine (C3.out _).mono ?_; rintro e w' ⟨rfl, rfl⟩) | (go_at_call 83; with_reducible refine (C1.out _).mono ?_; rintro e w' ⟨rfl, rfl⟩) | (go_at_call 83; with_reducible refine (C2.out _).mono ?_; rintro e w' ⟨rfl, rfl⟩))
      go_meet
      exact ⟨by rw [HB.out]; rfl, rfl⟩
  case rest =>
    obtain ⟨rfl, hwc⟩ := hcut
    obtain rfl := hwc.symm
    clear C1 C2 C3 HB
    have hBw := hb0.size
    go_upto_if 31 with fail
    go_cut [5] from 16 (fun v wx => Hid (EOwn w5.heap.size wx v (okE [if codesB a then 0 else 5]) ∧ SW w5 wx))
    case first =>
      cases hcb : codesB a with
      | true =>
        go_wp2
        go_meet
        exact Lib.hid ⟨by rw [hcb]; exact ROwn.nil (Nat.le_refl _), Below.refl _ _⟩
      | false =>
        have hN : EOwn w5.heap.size w5 (.slice none 0 0) [] := ROwn.nil (Nat.le_refl _)
        go_wp2_with (at_builtin; refine wpList_rapp rtE rfl _ _ rfl hN rfl (bel_alloc _ _) _ 5 _ rfl (cs := #[.int .i64 5]) rfl (heap_alloc_new _ _) (by simp) ?_; intro v' w' hO hC)
        go_meet
        exact Lib.hid ⟨by rw [hcb]; exact hO, hC.but.below (Nat.le_refl _) (fun k hk hv => by cases hv)⟩
    case rest =>
      have HC := Lib.hid hcut.out.1
      have hS0 : SW w5 wc := hcut.out.2
      generalize (if codesB a then (0 : Int) else 5) = x0 at *
      clear hcut
      have f0 := bel_get p0
      have g0 := bel_get q0
      have g1 := bel_get q1
      have g2 := bel_get q2
      have g3 := bel_get q3
      have g4 := bel_get q4
      go_wp2
      go_loopw [7, 8, 9] (fun v7 v8 vi wr => ∃ (k : Nat) (tw mv : Bool), k ≤ i ∧ vi = .int .i64 k ∧ v7 = .bool tw ∧ v8 = .bool mv ∧ Hid (tw = (l.take k).any (fun b => decide (b.code = a.code))) ∧ Hid (mv = (l.take k).any (fun b => decide (b.city = a.city) && !decide (b.land = a.land))) ∧ SW wc wr) (fun _ _ vi _ => i - (intOf vi).toNat)
      case atStart => exact ⟨0, false, false, Nat.zero_le _, rfl, rfl, rfl, Lib.hid rfl, Lib.hid rfl, Below.refl _ _⟩
      case round =>
        obtain ⟨k, tw, mv, hk, rfl, rfl, rfl, HT, HM, hS⟩ := hrel
        have hSr : SW w5 wr := Below.trans hS0 (Below.mono hS hS0.size)
        by_cases hlt : k < i
        · obtain ⟨bb', off', b, e, hgl', hkb, hb⟩ := (hLa5.more hSr).at (show k < l.length by omega)
          cases e
          have HT2 := Lib.hid (any_take (fun b => decide (b.code = a.code)) l k b hkb)
          have HM2 := Lib.hid (any_take (fun b => decide (b.city = a.city) && !decide (b.land = a.land)) l k b hkb)
          have i2 : (k : Int) < (i : Int) := by omega
          have i3 : (k : Int) < (l.length : Int) := by omega
          have e1 := eqB b.code a.code
          have e2 := eqB b.city a.city
          have e3 := eqB b.land a.land
          have k0 := SW.cell (f0 _ hSr)
          have k1 := SW.cell (g0 _ hSr)
          have k2 := SW.cell (g1 _ hSr)
          have k3 := SW.cell (g2 _ hSr)
          have k4 := SW.cell hb.c0
          have k5 := SW.cell hb.c1
          have k6 := SW.cell hb.c2
          clear hkb hb
          cases tw with
          | true =>
            have HT3 : Hid (true = (l.take (k + 1)).any (fun b => decide (b.code = a.code))) := Lib.hid (by rw [HT2.out, ← HT.out]; simp)
            cases mv with
            | true =>
              have HM3 : Hid (true = (l.take (k + 1)).any (fun b => decide (b.city = a.city) && !decide (b.land = a.land))) := Lib.hid (by rw [HM2.out, ← HM.out]; simp)
              clear HT2 HM2
              clear e1 e3
              go_wp2
              have hNe : Nonempty (Wd (SW wr)) := ⟨⟨_, SW.drew _⟩⟩
              refine quietS (S := SW wr) (by kernel_rfl) (by kernel_rfl) (SW.drew _) ?_
              repeat (first | go_big_quiet_skip | (go_big_quiet_want; go_big_quiet_op; first | go_big_quiet_on | go_big_quiet_call ((fail))))
              refine wpQuiet_nil ?_
              rintro W ⟨⟨_, hW⟩, rfl⟩
              go_wp2
              have hNe : Nonempty (Wd (SW wr)) := ⟨⟨_, (Below.drew hW)⟩⟩
              refine quietS (S := SW wr) (by kernel_rfl) (by kernel_rfl) ((Below.drew hW)) ?_
              repeat (first | go_big_quiet_skip | (go_big_quiet_want; go_big_quiet_op; first | go_big_quiet_on | go_big_quiet_call ((fail))))
              refine wpQuiet_nil ?_
              rintro W ⟨⟨_, hW⟩, rfl⟩
              go_wp2
              go_roundw
              case rel => exact ⟨k + 1, true, true, by omega, by go_num, rfl, rfl, HT3, HM3, Below.trans hS (Below.mono hW hS.size)⟩
              case measure => simp [intOf]; omega
            | false =>
              cases hce : decide (b.city = a.city) with
              | true =>
                rw [hce] at e2
                have HM3 : Hid ((!(b.land.toList == a.land.toList)) = (l.take (k + 1)).any (fun b => decide (b.city = a.city) && !decide (b.land = a.land))) := Lib.hid (by rw [HM2.out, ← HM.out, hce, e3]; simp)
                clear HT2 HM2 hce
                clear e1 e3
                go_wp2
                have hNe : Nonempty (Wd (SW wr)) := ⟨⟨_, SW.drew _⟩⟩
                refine quietS (S := SW wr) (by kernel_rfl) (by kernel_rfl) (SW.drew _) ?_
                repeat (first | go_big_quiet_skip | (go_big_quiet_want; go_big_quiet_op; first | go_big_quiet_on | go_big_quiet_call ((fail))))
                refine wpQuiet_nil ?_
                rintro W ⟨⟨_, hW⟩, rfl⟩
                go_wp2
                have hNe : Nonempty (Wd (SW wr)) := ⟨⟨_, (Below.drew hW)⟩⟩
                refine quietS (S := SW wr) (by kernel_rfl) (by kernel_rfl) ((Below.drew hW)) ?_
                repeat (first | go_big_quiet_skip | (go_big_quiet_want; go_big_quiet_op; first | go_big_quiet_on | go_big_quiet_call ((fail))))
                refine wpQuiet_nil ?_
                rintro W ⟨⟨_, hW⟩, rfl⟩
                go_wp2
                go_roundw
                case rel => exact ⟨k + 1, true, (!(b.land.toList == a.land.toList)), by omega, by go_num, rfl, rfl, HT3, HM3, Below.trans hS (Below.mono hW hS.size)⟩
                case measure => simp [intOf]; omega
              | false =>
                rw [hce] at e2
                have HM3 : Hid (false = (l.take (k + 1)).any (fun b => decide (b.city = a.city) && !decide (b.land = a.land))) := Lib.hid (by rw [HM2.out, ← HM.out, hce]; simp)
                clear HT2 HM2 hce
                clear e1 e3
                go_wp2
                have hNe : Nonempty (Wd (SW wr)) := ⟨⟨_, SW.drew _⟩⟩
                refine quietS (S := SW wr) (by kernel_rfl) (by kernel_rfl) (SW.drew _) ?_
                repeat (first | go_big_quiet_skip | (go_big_quiet_want; go_big_quiet_op; first | go_big_quiet_on | go_big_quiet_call ((fail))))
                refine wpQuiet_nil ?_
                rintro W ⟨⟨_, hW⟩, rfl⟩
                go_wp2
                have hNe : Nonempty (Wd (SW wr)) := ⟨⟨_, (Below.drew hW)⟩⟩
                refine quietS (S := SW wr) (by kernel_rfl) (by kernel_rfl) ((Below.drew hW)) ?_
                repeat (first | go_big_quiet_skip | (go_big_quiet_want; go_big_quiet_op; first | go_big_quiet_on | go_big_quiet_call ((fail))))
                refine wpQuiet_nil ?_
                rintro W ⟨⟨_, hW⟩, rfl⟩
                go_wp2
                go_roundw
                case rel => exact ⟨k + 1, true, false, by omega, by go_num, rfl, rfl, HT3, HM3, Below.trans hS (Below.mono hW hS.size)⟩
                case measure => simp [intOf]; omega
          | false =>
            have HT3 : Hid ((b.code.toList == a.code.toList) = (l.take (k + 1)).any (fun b => decide (b.code = a.code))) := Lib.hid (by rw [HT2.out, ← HT.out, e1]; simp)
            cases mv with
            | true =>
              have HM3 : Hid (true = (l.take (k + 1)).any (fun b => decide (b.city = a.city) && !decide (b.land = a.land))) := Lib.hid (by rw [HM2.out, ← HM.out]; simp)
              clear HT2 HM2
              clear e1 e3
              go_wp2
              have hNe : Nonempty (Wd (SW wr)) := ⟨⟨_, SW.drew _⟩⟩
              refine quietS (S := SW wr) (by kernel_rfl) (by kernel_rfl) (SW.drew _) ?_
              repeat (first | go_big_quiet_skip | (go_big_quiet_want; go_big_quiet_op; first | go_big_quiet_on | go_big_quiet_call ((fail))))
              refine wpQuiet_nil ?_
              rintro W ⟨⟨_, hW⟩, rfl⟩
              go_wp2
              have hNe : Nonempty (Wd (SW wr)) := ⟨⟨_, (Below.drew hW)⟩⟩
              refine quietS (S := SW wr) (by kernel_rfl) (by kernel_rfl) ((Below.drew hW)) ?_
              repeat (first | go_big_quiet_skip | (go_big_quiet_want; go_big_quiet_op; first | go_big_quiet_on | go_big_quiet_call ((fail))))
              refine wpQuiet_nil ?_
              rintro W ⟨⟨_, hW⟩, rfl⟩
              go_wp2
              go_roundw
              case rel => exact ⟨k + 1, (b.code.toList == a.code.toList), true, by omega, by go_num, rfl, rfl, HT3, HM3, Below.trans hS (Below.mono hW hS.size)⟩
              case measure => simp [intOf]; omega
            | false =>
              cases hce : decide (b.city = a.city) with
              | true =>
                rw [hce] at e2
                have HM3 : Hid ((!(b.land.toList == a.land.toList)) = (l.take (k + 1)).any (fun b => decide (b.city = a.city) && !decide (b.land = a.land))) := Lib.hid (by rw [HM2.out, ← HM.out, hce, e3]; simp)
                clear HT2 HM2 hce
                clear e1 e3
                go_wp2
                have hNe : Nonempty (Wd (SW wr)) := ⟨⟨_, SW.drew _⟩⟩
                refine quietS (S := SW wr) (by kernel_rfl) (by kernel_rfl) (SW.drew _) ?_
                repeat (first | go_big_quiet_skip | (go_big_quiet_want; go_big_quiet_op; first | go_big_quiet_on | go_big_quiet_call ((fail))))
                refine wpQuiet_nil ?_
                rintro W ⟨⟨_, hW⟩, rfl⟩
                go_wp2
                have hNe : Nonempty (Wd (SW wr)) := ⟨⟨_, (Below.drew hW)⟩⟩
                refine quietS (S := SW wr) (by kernel_rfl) (by kernel_rfl) ((Below.drew hW)) ?_
                repeat (first | go_big_quiet_skip | (go_big_quiet_want; go_big_quiet_op; first | go_big_quiet_on | go_big_quiet_call ((fail))))
                refine wpQuiet_nil ?_
                rintro W ⟨⟨_, hW⟩, rfl⟩
                go_wp2
                go_roundw
                case rel => exact ⟨k + 1, (b.code.toList == a.code.toList), (!(b.land.toList == a.land.toList)), by omega, by go_num, rfl, rfl, HT3, HM3, Below.trans hS (Below.mono hW hS.size)⟩
                case measure => simp [intOf]; omega
              | false =>
                rw [hce] at e2
                have HM3 : Hid (false = (l.take (k + 1)).any (fun b => decide (b.city = a.city) && !decide (b.land = a.land))) := Lib.hid (by rw [HM2.out, ← HM.out, hce]; simp)
                clear HT2 HM2 hce
                clear e1 e3
                go_wp2
                have hNe : Nonempty (Wd (SW wr)) := ⟨⟨_, SW.drew _⟩⟩
                refine quietS (S := SW wr) (by kernel_rfl) (by kernel_rfl) (SW.drew _) ?_
                repeat (first | go_big_quiet_skip | (go_big_quiet_want; go_big_quiet_op; first | go_big_quiet_on | go_big_quiet_call ((fail))))
                refine wpQuiet_nil ?_
                rintro W ⟨⟨_, hW⟩, rfl⟩
                go_wp2
                have hNe : Nonempty (Wd (SW wr)) := ⟨⟨_, (Below.drew hW)⟩⟩
                refine quietS (S := SW wr) (by kernel_rfl) (by kernel_rfl) ((Below.drew hW)) ?_
                repeat (first | go_big_quiet_skip | (go_big_quiet_want; go_big_quiet_op; first | go_big_quiet_on | go_big_quiet_call ((fail))))
                refine wpQuiet_nil ?_
                rintro W ⟨⟨_, hW⟩, rfl⟩
                go_wp2
                go_roundw
                case rel => exact ⟨k + 1, (b.code.toList == a.code.toList), false, by omega, by go_num, rfl, rfl, HT3, HM3, Below.trans hS (Below.mono hW hS.size)⟩
                case measure => simp [intOf]; omega
        · have hki : k = i := by omega
          subst hki
          have hO := HC.out.more hS
          have HLn : Hid ((okE [x0]).length ≤ 1) := Lib.hid (by unfold okE; exact List.length_filter_le _ _)
          have KZ : Hid (∀ W, SW w5 W → Calls Tryz.prog 109 #[.agg #[.int .i64 a.off, .slice a.A a.shs.length a.c]] W fun e w' => e = .returned (.int .i64 (errZ a.off a.shs)) ∧ Below W.heap.size W w') := Lib.hid (fun W hW => rcheck_any a.off a.A a.c a.shs W s4 (hsh5.more hW) s5)
          rw [← HT.out, ← HM.out] at HAE
          clear HT HM HC hLa5 hsh5
          generalize errZ a.off a.shs = ez at *
          have HE3 : Hid (okE (airE (l.take k) a) = okE [x0] ++ okE [if tw = true then 6 else 0] ++ okE [if mv = true then 8 else 0] ++ okE [ez]) := Lib.hid (by rw [HAE.out, ← okE_app, ← okE_app, ← okE_app]; rfl)
          clear HAE
          cases tw with
          | true =>
            cases mv with
            | true =>
              by_cases hez : ez = 0
              · subst hez
                have HF : Hid (okE (airE (l.take k) a) = okE [x0] ++ [6] ++ [8]) := Lib.hid (by rw [HE3.out]; simp [okE])
                clear HE3
                have z3 := g3 _ hSr
                have z4 := g4 _ hSr
                go_wp2_with (first | (go_at_call 109; refine (KZ.out _ hSb).mono ?_; rintro e wz ⟨rfl, hbz⟩; have hOz := hOb.more hbz; have hSz : SW w5 wz := Below.trans hSb (Below.mono hbz hSb.size)) | (at_builtin; refine wpList_rapp rtE rfl _ _ rfl hOa rfl (bel_alloc _ _) _ (8 : Int) _ rfl (cs := #[.int .i64 8]) rfl (heap_alloc_new _ _) (by have := HLn.out; (try simp only [List.length_append, List.length_cons, List.length_nil]); omega) ?_; intro vb wb hOb hCb; have hSb : SW w5 wb := Below.trans hSa ((hCb.below hOa).mono (Nat.le_refl _)); have z3 := g3 _ hSb; have z4 := g4 _ hSb) | (at_builtin; refine wpList_rapp rtE rfl _ _ rfl hO rfl (bel_alloc _ _) _ (6 : Int) _ rfl (cs := #[.int .i64 6]) rfl (heap_alloc_new _ _) (by have := HLn.out; (try simp only [List.length_append, List.length_cons, List.length_nil]); omega) ?_; intro va wa hOa hCa; have hSa : SW w5 wa := Below.trans hSr ((hCa.below hO).mono (Nat.le_refl _)); have z3 := g3 _ hSa; have z4 := g4 _ hSa))
                go_ret
                exact ⟨_, rfl, ⟨by rw [HF.out]; exact hOz.own.mono hBw, Nat.le_trans hBw hSz.size⟩, hb0.trans (Below.mono hSz hBw)⟩
              · have hez2 : (ez != 0) = true := by simp [hez]
                have HF : Hid (okE (airE (l.take k) a) = okE [x0] ++ [6] ++ [8] ++ [ez]) := Lib.hid (by rw [HE3.out]; rw [okE_one ez hez]; simp [okE])
                clear HE3 hez
                have z3 := g3 _ hSr
                have z4 := g4 _ hSr
                go_wp2_with (first | (at_builtin; refine wpList_rapp rtE rfl _ _ rfl hOz rfl (bel_alloc _ _) _ (ez : Int) _ rfl (cs := #[.int .i64 ez]) rfl (heap_alloc_new _ _) (by have := HLn.out; (try simp only [List.length_append, List.length_cons, List.length_nil]); omega) ?_; intro vc wc hOc hCc; have hSc : SW w5 wc := Below.trans hSz ((hCc.below hOz).mono (Nat.le_refl _)); have z3 := g3 _ hSc; have z4 := g4 _ hSc) | (go_at_call 109; refine (KZ.out _ hSb).mono ?_; rintro e wz ⟨rfl, hbz⟩; have hOz := hOb.more hbz; have hSz : SW w5 wz := Below.trans hSb (Below.mono hbz hSb.size)) | (at_builtin; refine wpList_rapp rtE rfl _ _ rfl hOa rfl (bel_alloc _ _) _ (8 : Int) _ rfl (cs := #[.int .i64 8]) rfl (heap_alloc_new _ _) (by have := HLn.out; (try simp only [List.length_append, List.length_cons, List.length_nil]); omega) ?_; intro vb wb hOb hCb; have hSb : SW w5 wb := Below.trans hSa ((hCb.below hOa).mono (Nat.le_refl _)); have z3 := g3 _ hSb; have z4 := g4 _ hSb) | (at_builtin; refine wpList_rapp rtE rfl _ _ rfl hO rfl (bel_alloc _ _) _ (6 : Int) _ rfl (cs := #[.int .i64 6]) rfl (heap_alloc_new _ _) (by have := HLn.out; (try simp only [List.length_append, List.length_cons, List.length_nil]); omega) ?_; intro va wa hOa hCa; have hSa : SW w5 wa := Below.trans hSr ((hCa.below hO).mono (Nat.le_refl _)); have z3 := g3 _ hSa; have z4 := g4 _ hSa))
                go_ret
                exact ⟨_, rfl, ⟨by rw [HF.out]; exact hOc.own.mono hBw, Nat.le_trans hBw hSc.size⟩, hb0.trans (Below.mono hSc hBw)⟩
            | false =>
              by_cases hez : ez = 0
              · subst hez
                have HF : Hid (okE (airE (l.take k) a) = okE [x0] ++ [6]) := Lib.hid (by rw [HE3.out]; simp [okE])
                clear HE3
                have z3 := g3 _ hSr
                have z4 := g4 _ hSr
                go_wp2_with (first | (go_at_call 109; refine (KZ.out _ hSa).mono ?_; rintro e wz ⟨rfl, hbz⟩; have hOz := hOa.more hbz; have hSz : SW w5 wz := Below.trans hSa (Below.mono hbz hSa.size)) | (at_builtin; refine wpList_rapp rtE rfl _ _ rfl hO rfl (bel_alloc _ _) _ (6 : Int) _ rfl (cs := #[.int .i64 6]) rfl (heap_alloc_new _ _) (by have := HLn.out; (try simp only [List.length_append, List.length_cons, List.length_nil]); omega) ?_; intro va wa hOa hCa; have hSa : SW w5 wa := Below.trans hSr ((hCa.below hO).mono (Nat.le_refl _)); have z3 := g3 _ hSa; have z4 := g4 _ hSa))
                go_ret
                exact ⟨_, rfl, ⟨by rw [HF.out]; exact hOz.own.mono hBw, Nat.le_trans hBw hSz.size⟩, hb0.trans (Below.mono hSz hBw)⟩
              · have hez2 : (ez != 0) = true := by simp [hez]
                have HF : Hid (okE (airE (l.take k) a) = okE [x0] ++ [6] ++ [ez]) := Lib.hid (by rw [HE3.out]; rw [okE_one ez hez]; simp [okE])
                clear HE3 hez
                have z3 := g3 _ hSr
                have z4 := g4 _ hSr
                go_wp2_with (first | (at_builtin; refine wpList_rapp rtE rfl _ _ rfl hOz rfl (bel_alloc _ _) _ (ez : Int) _ rfl (cs := #[.int .i64 ez]) rfl (heap_alloc_new _ _) (by have := HLn.out; (try simp only [List.length_append, List.length_cons, List.length_nil]); omega) ?_; intro vc wc hOc hCc; have hSc : SW w5 wc := Below.trans hSz ((hCc.below hOz).mono (Nat.le_refl _)); have z3 := g3 _ hSc; have z4 := g4 _ hSc) | (go_at_call 109; refine (KZ.out _ hSa).mono ?_; rintro e wz ⟨rfl, hbz⟩; have hOz := hOa.more hbz; have hSz : SW w5 wz := Below.trans hSa (Below.mono hbz hSa.size)) | (at_builtin; refine wpList_rapp rtE rfl _ _ rfl hO rfl (bel_alloc _ _) _ (6 : Int) _ rfl (cs := #[.int .i64 6]) rfl (heap_alloc_new _ _) (by have := HLn.out; (try simp only [List.length_append, List.length_cons, List.length_nil]); omega) ?_; intro va wa hOa hCa; have hSa : SW w5 wa := Below.trans hSr ((hCa.below hO).mono (Nat.le_refl _)); have z3 := g3 _ hSa; have z4 := g4 _ hSa))
                go_ret
                exact ⟨_, rfl, ⟨by rw [HF.out]; exact hOc.own.mono hBw, Nat.le_trans hBw hSc.size⟩, hb0.trans (Below.mono hSc hBw)⟩
          | false =>
            cases mv with
            | true =>
              by_cases hez : ez = 0
              · subst hez
                have HF : Hid (okE (airE (l.take k) a) = okE [x0] ++ [8]) := Lib.hid (by rw [HE3.out]; simp [okE])
                clear HE3
                have z3 := g3 _ hSr
                have z4 := g4 _ hSr
                go_wp2_with (first | (go_at_call 109; refine (KZ.out _ hSb).mono ?_; rintro e wz ⟨rfl, hbz⟩; have hOz := hOb.more hbz; have hSz : SW w5 wz := Below.trans hSb (Below.mono hbz hSb.size)) | (at_builtin; refine wpList_rapp rtE rfl _ _ rfl hO rfl (bel_alloc _ _) _ (8 : Int) _ rfl (cs := #[.int .i64 8]) rfl (heap_alloc_new _ _) (by have := HLn.out; (try simp only [List.length_append, List.length_cons, List.length_nil]); omega) ?_; intro vb wb hOb hCb; have hSb : SW w5 wb := Below.trans hSr ((hCb.below hO).mono (Nat.le_refl _)); have z3 := g3 _ hSb; have z4 := g4 _ hSb))
                go_ret
                exact ⟨_, rfl, ⟨by rw [HF.out]; exact hOz.own.mono hBw, Nat.le_trans hBw hSz.size⟩, hb0.trans (Below.mono hSz hBw)⟩
              · have hez2 : (ez != 0) = true := by simp [hez]
                have HF : Hid (okE (airE (l.take k) a) = okE [x0] ++ [8] ++ [ez]) := Lib.hid (by rw [HE3.out]; rw [okE_one ez hez]; simp [okE])
                clear HE3 hez
                have z3 := g3 _ hSr
                have z4 := g4 _ hSr
                go_wp2_with (first | (at_builtin; refine wpList_rapp rtE rfl _ _ rfl hOz rfl (bel_alloc _ _) _ (ez : Int) _ rfl (cs := #[.int .i64 ez]) rfl (heap_alloc_new _ _) (by have := HLn.out; (try simp only [List.length_append, List.length_cons, List.length_nil]); omega) ?_; intro vc wc hOc hCc; have hSc : SW w5 wc := Below.trans hSz ((hCc.below hOz).mono (Nat.le_refl _)); have z3 := g3 _ hSc; have z4 := g4 _ hSc) | (go_at_call 109; refine (KZ.out _ hSb).mono ?_; rintro e wz ⟨rfl, hbz⟩; have hOz := hOb.more hbz; have hSz : SW w5 wz := Below.trans hSb (Below.mono hbz hSb.size)) | (at_builtin; refine wpList_rapp rtE rfl _ _ rfl hO rfl (bel_alloc _ _) _ (8 : Int) _ rfl (cs := #[.int .i64 8]) rfl (heap_alloc_new _ _) (by have := HLn.out; (try simp only [List.length_append, List.length_cons, List.length_nil]); omega) ?_; intro vb wb hOb hCb; have hSb : SW w5 wb := Below.trans hSr ((hCb.below hO).mono (Nat.le_refl _)); have z3 := g3 _ hSb; have z4 := g4 _ hSb))
                go_ret
                exact ⟨_, rfl, ⟨by rw [HF.out]; exact hOc.own.mono hBw, Nat.le_trans hBw hSc.size⟩, hb0.trans (Below.mono hSc hBw)⟩
            | false =>
              by_cases hez : ez = 0
              · subst hez
                have HF : Hid (okE (airE (l.take k) a) = okE [x0]) := Lib.hid (by rw [HE3.out]; simp [okE])
                clear HE3
                have z3 := g3 _ hSr
                have z4 := g4 _ hSr
                go_wp2_with (first | (go_at_call 109; refine (KZ.out _ hSr).mono ?_; rintro e wz ⟨rfl, hbz⟩; have hOz := hO.more hbz; have hSz : SW w5 wz := Below.trans hSr (Below.mono hbz hSr.size)))
                go_ret
                exact ⟨_, rfl, ⟨by rw [HF.out]; exact hOz.own.mono hBw, Nat.le_trans hBw hSz.size⟩, hb0.trans (Below.mono hSz hBw)⟩
              · have hez2 : (ez != 0) = true := by simp [hez]
                have HF : Hid (okE (airE (l.take k) a) = okE [x0] ++ [ez]) := Lib.hid (by rw [HE3.out]; rw [okE_one ez hez]; simp [okE])
                clear HE3 hez
                have z3 := g3 _ hSr
                have z4 := g4 _ hSr
                go_wp2_with (first | (at_builtin; refine wpList_rapp rtE rfl _ _ rfl hOz rfl (bel_alloc _ _) _ (ez : Int) _ rfl (cs := #[.int .i64 ez]) rfl (heap_alloc_new _ _) (by have := HLn.out; (try simp only [List.length_append, List.length_cons, List.length_nil]); omega) ?_; intro vc wc hOc hCc; have hSc : SW w5 wc := Below.trans hSz ((hCc.below hOz).mono (Nat.le_refl _)); have z3 := g3 _ hSc; have z4 := g4 _ hSc) | (go_at_call 109; refine (KZ.out _ hSr).mono ?_; rintro e wz ⟨rfl, hbz⟩; have hOz := hO.more hbz; have hSz : SW w5 wz := Below.trans hSr (Below.mono hbz hSr.size)))
                go_ret
                exact ⟨_, rfl, ⟨by rw [HF.out]; exact hOc.own.mono hBw, Nat.le_trans hBw hSc.size⟩, hb0.trans (Below.mono hSc hBw)⟩

end Go.Proofs.YtfgmlbmjjihhfaaGreatDoor

/- Walks of the reference's leaves for flights: out, broken, head. -/
namespace Go.Proofs.YtfgmlbmjjihhfaaGreatDoor
open Go.RowKit Go.Shelf
set_option linter.unusedSimpArgs false
set_option linter.unusedVariables false

theorem rout_any (n : Int) (w : World) : Calls Tryz.prog 66 #[.int .i64 n] w fun e w' => e = .returned (.bool (!minB n)) ∧ w = w' := by
  have HU : Hid ((!minB n) = (decide (n < -1440) || decide (5759 < n))) := Lib.hid (by
    unfold minB
    by_cases h1 : -1440 ≤ n <;> by_cases h2 : n ≤ 5759 <;> simp [h1, h2] <;> omega)
  by_cases h1 : n < -1440
  all_goals
    go_enter Tryz.func66, Tryz.ntmps66
    go_wp2
    go_ret
    exact ⟨ret_bool (by rw [HU.out]; first | (simp [h1]; done) | (simp [h1]; omega)), rfl⟩

theorem next_or (l : List Lg) (k : Nat) (x : Lg) (h : l[k]? = some x) : (!nextB (l.take k) x) = (badF (l.take k) x || (l.take (k + 1)).any (fun b => b.f.toList == x.t.toList)) := by
  rw [any_take _ l k x h]
  unfold nextB
  have e : (x.t.toList == x.f.toList) = (x.f.toList == x.t.toList) := by
    by_cases h : x.f.toList = x.t.toList
    · simp [h]
    · have h2 : ¬ x.t.toList = x.f.toList := fun e => h e.symm
      rw [beq_eq_false_iff_ne.2 h, beq_eq_false_iff_ne.2 h2]
  rw [e]
  cases badF (l.take k) x <;> cases (l.take k).any (fun b => b.f.toList == x.t.toList) <;> cases (x.f.toList == x.t.toList) <;> rfl
theorem any_up {q : Lg → Bool} {l : List Lg} {j k : Nat} {y : Lg} (h : l[j]? = some y) (hq : q y = true) (hjk : j ≤ k) : (l.take (k + 1)).any q = true := by
  rw [List.any_eq_true]
  refine ⟨y, ?_, hq⟩
  have : (l.take (k + 1))[j]? = some y := by rw [List.getElem?_take, if_pos (by omega)]; exact h
  exact List.mem_of_getElem? this

set_option maxRecDepth 100000 in
set_option maxHeartbeats 4000000 in
theorem rbroken_any (A : Option Addr) (c : Nat) (l : List Lg) (k : Nat) (x : Lg) (w : World) (hl : l.length ≤ 1000) (hL : LegL w (.slice A l.length c) l) (hx : l[k]? = some x) :
    Calls Tryz.prog 65 #[.slice A l.length c, .int .i64 (k : Int)] w fun e w' => e = .returned (.bool (!nextB (l.take k) x)) ∧ Below w.heap.size w w' := by
  have HN := Lib.hid (next_or l k x hx)
  have hk : k < l.length := (List.getElem?_eq_some_iff.1 hx).1
  obtain ⟨b, o, x', rfl, hbl, hx', c0, c1, c2, c3, c4⟩ := LegL.get hL hk
  rw [hx] at hx'
  obtain rfl := Option.some.inj hx'
  have i0 : (k : Int) < (l.length : Int) := by omega
  have fx0 := SW.cell c0
  have fx1 := SW.cell c1
  clear c0 c1 c2 c3 c4
  have HX := Lib.hid hx
  clear hx
  go_enter Tryz.func65, Tryz.ntmps65
  go_upto_region 1 with fail
  go_cut [21] from 6 (fun v wx => v = .bool (badF (l.take k) x) ∧ SW w wx)
  case first =>
    by_cases h0 : k = 0
    · have hE : badF (l.take k) x = false := by rw [h0]; rfl
      have HE := Lib.hid hE
      have i1 : ¬ (0 : Int) < (k : Int) := by omega
      have hdec : decide (0 < k) = false := decide_eq_false (by omega)
      clear hE h0
      have hNe : Nonempty (Wd (SW w)) := ⟨⟨_, SW.drew _⟩⟩
      refine quietS (S := SW w) (by kernel_rfl) (by kernel_rfl) (SW.drew _) ?_
      repeat (first | go_big_quiet_skip | (go_big_quiet_want; go_big_quiet_op; first | go_big_quiet_on | go_big_quiet_call ((fail))))
      refine wpQuiet_nil ?_
      rintro W ⟨⟨_, hW⟩, rfl⟩
      go_wp2
      go_meet
      exact ⟨by rw [HE.out], hW⟩
    · obtain ⟨b', o', y, e, hbl', hy, c0, c1, c2, c3, c4⟩ := LegL.get hL (show k - 1 < l.length by omega)
      cases e
      have hE : badF (l.take k) x = !(x.f.toList == y.t.toList) := by
        unfold badF
        rw [List.getLast?_eq_getElem?, List.length_take, Nat.min_eq_left (by omega), List.getElem?_take, if_pos (by omega), hy]
      have HE := Lib.hid hE
      have i1 : (0 : Int) < (k : Int) := by omega
      have hdec : decide (0 < k) = true := decide_eq_true (by omega)
      have i2 : ((k : Int) - 1) = ((k - 1 : Nat) : Int) := by omega
      have i3 : ((k - 1 : Nat) : Int) < (l.length : Int) := by omega
      have fy := SW.cell c1
      clear hE h0 hy c0 c1 c2 c3 c4
      generalize k - 1 = last at *
      have hNe : Nonempty (Wd (SW w)) := ⟨⟨_, SW.drew _⟩⟩
      refine quietS (S := SW w) (by kernel_rfl) (by kernel_rfl) (SW.drew _) ?_
      repeat (first | go_big_quiet_skip | (go_big_quiet_want; go_big_quiet_op; first | go_big_quiet_on | go_big_quiet_call ((fail))))
      refine wpQuiet_nil ?_
      rintro W ⟨⟨_, hW⟩, rfl⟩
      go_wp2
      go_meet
      exact ⟨by rw [HE.out], hW⟩
  case rest =>
    obtain ⟨rfl, hS⟩ := hcut
    cases hbf : badF (l.take k) x
    · rw [hbf] at HN
      clear hbf
      have HL := Lib.hid hL
      clear hL
      go_wp2
      go_loopw [5] (fun vi wr => ∃ j : Nat, j ≤ k + 1 ∧ vi = .int .i64 j ∧ Hid ((l.take j).any (fun b => b.f.toList == x.t.toList) = false) ∧ SW w wr) (fun vi _ => k + 1 - (intOf vi).toNat)
      case atStart => exact ⟨0, by omega, rfl, Lib.hid rfl, hS⟩
      case round =>
        obtain ⟨j, hj, rfl, HJ, hSr⟩ := hrel
        by_cases hlt : j ≤ k
        · obtain ⟨b', o', y, e, hbl', hy, c0, c1, c2, c3, c4⟩ := LegL.get (HL.out.more hSr) (show j < l.length by omega)
          cases e
          have i1 : (j : Int) ≤ (k : Int) := by omega
          have i2 : (j : Int) < (l.length : Int) := by omega
          have hT := any_take (fun b => b.f.toList == x.t.toList) l j y hy
          have fy := SW.cell c0
          have fx := SW.cell (fx1 ⟨wr, hSr⟩)
          have HU : Hid ((y.f.toList == x.t.toList) = true → (l.take (k + 1)).any (fun b => b.f.toList == x.t.toList) = true) := Lib.hid (fun h => any_up hy h hlt)
          have HT := Lib.hid hT
          clear hT hy c0 c1 c2 c3 c4
          cases hq : (y.f.toList == x.t.toList)
          · have HJ2 : Hid ((l.take (j + 1)).any (fun b => b.f.toList == x.t.toList) = false) := Lib.hid (by rw [HT.out, HJ.out]; simpa using hq)
            go_wp2
            have hNe : Nonempty (Wd (SW wr)) := ⟨⟨_, SW.drew _⟩⟩
            refine quietS (S := SW wr) (by kernel_rfl) (by kernel_rfl) (SW.drew _) ?_
            repeat (first | go_big_quiet_skip | (go_big_quiet_want; go_big_quiet_op; first | go_big_quiet_on | go_big_quiet_call ((fail))))
            refine wpQuiet_nil ?_
            rintro W ⟨⟨_, hW⟩, rfl⟩
            go_wp2
            go_roundw
            case rel => exact ⟨j + 1, by omega, by go_num, HJ2, Below.trans hSr (Below.mono hW hSr.size)⟩
            case measure => simp [intOf]; omega
          · have HR : Hid ((!nextB (l.take k) x) = true) := Lib.hid (by rw [HN.out, HU.out hq]; rfl)
            go_wp2
            have hNe : Nonempty (Wd (SW wr)) := ⟨⟨_, SW.drew _⟩⟩
            refine quietS (S := SW wr) (by kernel_rfl) (by kernel_rfl) (SW.drew _) ?_
            repeat (first | go_big_quiet_skip | (go_big_quiet_want; go_big_quiet_op; first | go_big_quiet_on | go_big_quiet_call ((fail))))
            refine wpQuiet_nil ?_
            rintro W ⟨⟨_, hW⟩, rfl⟩
            go_wp2
            go_ret
            exact ⟨ret_bool HR.out.symm, Below.trans hSr (Below.mono hW hSr.size)⟩
        · have e : j = k + 1 := by omega
          have HR : Hid ((!nextB (l.take k) x) = false) := Lib.hid (by rw [HN.out, ← e, HJ.out]; rfl)
          have i1 : ¬ (j : Int) ≤ (k : Int) := by omega
          clear e
          go_wp2
          go_ret
          exact ⟨ret_bool HR.out.symm, hSr⟩
    · rw [hbf] at HN
      go_wp2
      go_ret
      exact ⟨ret_bool (by rw [HN.out]; rfl), hS⟩

end Go.Proofs.YtfgmlbmjjihhfaaGreatDoor

/- Walk of the reference's head of a flight. -/
namespace Go.Proofs.YtfgmlbmjjihhfaaGreatDoor
open Go.RowKit Go.Shelf
set_option linter.unusedSimpArgs false
set_option linter.unusedVariables false

/-- the violations of a flight without its legs, with the count of legs -/
def hdR (f : FV) : List Flt := hdF f ++ pick lgsW [if (!cntB f.lg.length) = true then 4 else 0]
set_option maxRecDepth 100000 in
set_option maxHeartbeats 8000000 in
theorem rhead_any (f : FV) (w : World) (hc0 : f.car.size ≤ maxLen) :
    Calls Tryz.prog 62 #[encFl f] w fun e w' => ∃ v, e = .returned v ∧ FOwn w.heap.size w' v (hdR f) ∧ Below w.heap.size w w' := by
  obtain ⟨HR, hHR⟩ : ∃ H, H = hdR f := ⟨_, rfl⟩
  rw [← hHR]
  obtain ⟨x0, hx0⟩ : ∃ x : Int, x = (if (!carB f.car) = true then 5 else 0) := ⟨_, rfl⟩
  obtain ⟨x1, hx1⟩ : ∃ x : Int, x = (if (!numB f.num) = true then 2 else 0) := ⟨_, rfl⟩
  obtain ⟨x2, hx2⟩ : ∃ x : Int, x = Per.errQ (f.pf, f.pt, f.pd) := ⟨_, rfl⟩
  obtain ⟨x3, hx3⟩ : ∃ x : Int, x = (if (!cntB f.lg.length) = true then 4 else 0) := ⟨_, rfl⟩
  have HHR : Hid (HR = [] ++ pick carW [x0] ++ pick numW [x1] ++ pick perW [x2] ++ pick lgsW [x3]) := Lib.hid (by rw [hHR, hdR, hdF, hx0, hx1, hx2, hx3]; simp)
  clear hHR
  have hb1 := bel_alloc w (.cells #[.string f.car, .int .i64 f.num, .int .i64 f.pf, .int .i64 f.pt, .int .i64 f.pd, .slice f.A f.lg.length f.c] fliT)
  have q0 := (cells_new w #[.string f.car, .int .i64 f.num, .int .i64 f.pf, .int .i64 f.pt, .int .i64 f.pd, .slice f.A f.lg.length f.c] fliT 0).trans (show _ = some (.string f.car) from rfl)
  have q1 := (cells_new w #[.string f.car, .int .i64 f.num, .int .i64 f.pf, .int .i64 f.pt, .int .i64 f.pd, .slice f.A f.lg.length f.c] fliT 1).trans (show _ = some (.int .i64 f.num) from rfl)
  have q2 := (cells_new w #[.string f.car, .int .i64 f.num, .int .i64 f.pf, .int .i64 f.pt, .int .i64 f.pd, .slice f.A f.lg.length f.c] fliT 2).trans (show _ = some (.int .i64 f.pf) from rfl)
  have q3 := (cells_new w #[.string f.car, .int .i64 f.num, .int .i64 f.pf, .int .i64 f.pt, .int .i64 f.pd, .slice f.A f.lg.length f.c] fliT 3).trans (show _ = some (.int .i64 f.pt) from rfl)
  have q4 := (cells_new w #[.string f.car, .int .i64 f.num, .int .i64 f.pf, .int .i64 f.pt, .int .i64 f.pd, .slice f.A f.lg.length f.c] fliT 4).trans (show _ = some (.int .i64 f.pd) from rfl)
  have q5 := (cells_new w #[.string f.car, .int .i64 f.num, .int .i64 f.pf, .int .i64 f.pt, .int .i64 f.pd, .slice f.A f.lg.length f.c] fliT 5).trans (show _ = some (.slice f.A f.lg.length f.c) from rfl)
  have KC := Lib.hid (fun w => rcarrier_any f.car w hc0)
  have KP := Lib.hid (fun w => Per.rcheck_any f.pf f.pt f.pd w)
  rw [← hx2] at KP
  have HX0 := Lib.hid hx0
  have HX1 := Lib.hid hx1
  have HX3 := Lib.hid hx3
  have hbw := hb1.size
  clear hx0 hx1 hx2 hx3
  go_enter Tryz.func62, Tryz.ntmps62
  go_upto_region 2 with fail
  generalize hw5 : w.alloc (.cells #[.string f.car, .int .i64 f.num, .int .i64 f.pf, .int .i64 f.pt, .int .i64 f.pd, .slice f.A f.lg.length f.c] fliT) = w5 at *
  clear hw5
  have f1 := bel_get q1
  have f2 := bel_get q2
  have f3 := bel_get q3
  have f4 := bel_get q4
  have f5 := bel_get q5
  clear q1 q2 q3 q4 q5
  generalize hbc : carB f.car = bc at *
  go_upto_if 7 with (go_at_call 120; refine (KC.out _).mono ?_; rintro e w1 ⟨rfl, rfl⟩)
  go_cut [3] from 4 (fun v wx => Hid (FOwn w5.heap.size wx v ([] ++ pick carW [x0]) ∧ SW w5 wx))
  case first =>
    have hO : FOwn w5.heap.size w5 (.slice none 0 0) [] := ROwn.nil (Nat.le_refl _)
    cases bc with
    | true =>
      have HX : Hid (x0 = 0) := Lib.hid (by rw [HX0.out]; rfl)
      go_wp2
      go_meet
      exact Lib.hid ⟨by rw [HX.out]; exact hO, Below.refl _ _⟩
    | false =>
      have HX : Hid (x0 = 5) := Lib.hid (by rw [HX0.out]; rfl)
      go_wp2_with (at_builtin; refine wpList_rapp rtF rfl _ _ rfl hO rfl (bel_alloc _ _) _ (5, carW) _ rfl (cs := #[.int .i64 5, .string carW]) rfl (heap_alloc_new _ _) (by simp) ?_; intro v1 w1 hO1 hC1)
      go_meet
      exact Lib.hid ⟨by rw [HX.out]; exact hO1, hC1.below hO⟩
  case rest =>
    have hO := hcut.out.1
    have hS := hcut.out.2
    have k1 := f1 _ hS
    clear hcut
    go_upto_region 4 with fail
    go_cut [19] from 4 (fun v wx => v = .bool (!numB f.num) ∧ wx = wc)
    case first =>
      have HU : Hid ((!numB f.num) = (decide (f.num < 1) || decide (9999 < f.num))) := Lib.hid (by
        unfold numB
        by_cases h1 : 1 ≤ f.num <;> by_cases h2 : f.num ≤ 9999 <;> simp [h1, h2] <;> omega)
      by_cases h1 : f.num < 1
      · go_wp2
        go_meet
        exact ⟨by rw [HU.out]; first | (simp [h1]; done) | (simp [h1]; omega), rfl⟩
      · go_wp2
        go_meet
        exact ⟨by rw [HU.out]; first | (simp [h1]; done) | (simp [h1]; omega), rfl⟩
    case rest =>
      obtain ⟨rfl, hwc⟩ := hcut
      obtain rfl := hwc
      generalize hbn : numB f.num = bn at *
      go_upto_if 19 with fail
      have HLn : Hid (([] ++ pick carW [x0]).length ≤ 100000000) := Lib.hid (by have h0 := pick_le carW [x0]; have h1 := pick_le numW [x1]; have h2 := pick_le perW [x2]; simp only [List.length_append, List.length_cons, List.length_nil] at h0 h1 h2 ⊢; omega)
      go_cut [3] from 4 (fun v wx => Hid (FOwn w5.heap.size wx v ([] ++ pick carW [x0] ++ pick numW [x1]) ∧ SW w5 wx))
      case first =>
        cases bn with
        | true =>
          have HX : Hid (x1 = 0) := Lib.hid (by rw [HX1.out]; rfl)
          go_wp2
          go_meet
          exact Lib.hid ⟨by rw [HX.out]; simpa [pick_zero] using hO, hS⟩
        | false =>
          have HX : Hid (x1 = 2) := Lib.hid (by rw [HX1.out]; rfl)
          go_wp2_with (at_builtin; refine wpList_rapp rtF rfl _ _ rfl hO rfl (bel_alloc _ _) _ (2, numW) _ rfl (cs := #[.int .i64 2, .string numW]) rfl (heap_alloc_new _ _) HLn.out ?_; intro v1 w1 hO1 hC1)
          go_meet
          exact Lib.hid ⟨by rw [HX.out]; exact hO1, Below.trans hS (hC1.below hO)⟩
      case rest =>
        have hO := hcut.out.1
        have hS := hcut.out.2
        have k2 := f2 _ hS
        have k3 := f3 _ hS
        have k4 := f4 _ hS
        clear hcut HLn
        go_upto_region 6 with fail
        go_cut [27] from 4 (fun v wx => v = .bool (x2 != 0) ∧ SW wc wx)
        case first =>
          go_wp2_with (go_at_call 121; refine (KP.out _).mono ?_; rintro e w2 ⟨rfl, hb2⟩)
          go_meet
          exact ⟨rfl, hb2⟩
        case rest =>
          obtain ⟨rfl, hS2⟩ := hcut
          have hO := hO.more hS2
          have hS : SW w5 wc := Below.trans hS (Below.mono hS2 hS.size)
          have k2 := f2 _ hS
          have k3 := f3 _ hS
          have k4 := f4 _ hS
          clear hS2
          have HLn : Hid (([] ++ pick carW [x0] ++ pick numW [x1]).length ≤ 100000000) := Lib.hid (by have h0 := pick_le carW [x0]; have h1 := pick_le numW [x1]; have h2 := pick_le perW [x2]; simp only [List.length_append, List.length_cons, List.length_nil] at h0 h1 h2 ⊢; omega)
          go_upto_if 27 with fail
          go_cut [3] from 4 (fun v wx => Hid (FOwn w5.heap.size wx v ([] ++ pick carW [x0] ++ pick numW [x1] ++ pick perW [x2]) ∧ SW w5 wx))
          case first =>
            cases hb : (x2 != 0) with
            | false =>
              have HX : Hid (x2 = 0) := Lib.hid (by simpa using hb)
              go_wp2
              go_meet
              exact Lib.hid ⟨by rw [HX.out]; simpa [pick_zero] using hO, hS⟩
            | true =>
              have HX : Hid (x2 ≠ 0) := Lib.hid (by simpa using hb)
              go_wp2_with (first
                | (go_at_call 121; refine (KP.out _).mono ?_; rintro e w2 ⟨rfl, hb2⟩; have hO := hO.more hb2; have hS : SW w5 w2 := Below.trans hS (Below.mono hb2 hS.size))
                | (at_builtin; refine wpList_rapp rtF rfl _ _ rfl hO rfl (bel_alloc _ _) _ (x2, perW) _ rfl (cs := #[.int .i64 x2, .string perW]) rfl (heap_alloc_new _ _) HLn.out ?_; intro v1 w1 hO1 hC1))
              go_meet
              exact Lib.hid ⟨by rw [pick_one perW x2 HX.out]; exact hO1, Below.trans hS (hC1.below hO)⟩
          case rest =>
            have hO := hcut.out.1
            have hS := hcut.out.2
            have k5 := f5 _ hS
            clear hcut HLn
            go_upto_region 8 with fail
            go_cut [44] from 4 (fun v wx => v = .bool (!cntB f.lg.length) ∧ wx = wc)
            case first =>
              have HU : Hid ((!cntB f.lg.length) = (decide ((f.lg.length : Int) < 1) || decide ((6 : Int) < (f.lg.length : Int)))) := Lib.hid (by
                unfold cntB
                by_cases h1 : 1 ≤ f.lg.length <;> by_cases h2 : f.lg.length ≤ 6 <;> simp [h1, h2] <;> omega)
              by_cases h1 : (f.lg.length : Int) < 1
              · go_wp2
                go_meet
                exact ⟨by rw [HU.out]; first | (simp [h1]; done) | (simp [h1]; omega), rfl⟩
              · go_wp2
                go_meet
                exact ⟨by rw [HU.out]; first | (simp [h1]; done) | (simp [h1]; omega), rfl⟩
            case rest =>
              obtain ⟨rfl, hwc⟩ := hcut
              obtain rfl := hwc
              generalize hbl : cntB f.lg.length = bl at *
              have HLn : Hid (([] ++ pick carW [x0] ++ pick numW [x1] ++ pick perW [x2]).length ≤ 100000000) := Lib.hid (by have h0 := pick_le carW [x0]; have h1 := pick_le numW [x1]; have h2 := pick_le perW [x2]; simp only [List.length_append, List.length_cons, List.length_nil] at h0 h1 h2 ⊢; omega)
              have hbB : Below w.heap.size w w5 := hb1
              cases bl with
              | true =>
                have HX : Hid (x3 = 0) := Lib.hid (by rw [HX3.out]; rfl)
                have HZ : Hid (HR = [] ++ pick carW [x0] ++ pick numW [x1] ++ pick perW [x2]) := Lib.hid (by rw [HHR.out, HX.out, pick_zero, List.append_nil])
                go_wp2
                go_ret
                exact ⟨_, rfl, by rw [HZ.out]; exact ⟨hO.own.mono hbB.size, Nat.le_trans hbB.size hO.base⟩, hbB.trans (Below.mono hS hbB.size)⟩
              | false =>
                have HX : Hid (x3 = 4) := Lib.hid (by rw [HX3.out]; rfl)
                have HZ : Hid (HR = [] ++ pick carW [x0] ++ pick numW [x1] ++ pick perW [x2] ++ [(4, lgsW)]) := Lib.hid (by rw [HHR.out, HX.out]; rfl)
                go_wp2_with (at_builtin; refine wpList_rapp rtF rfl _ _ rfl hO rfl (bel_alloc _ _) _ (4, lgsW) _ rfl (cs := #[.int .i64 4, .string lgsW]) rfl (heap_alloc_new _ _) HLn.out ?_; intro v1 w1 hO1 hC1)
                go_ret
                exact ⟨v1, rfl, by rw [HZ.out]; exact ⟨hO1.own.mono hbB.size, Nat.le_trans hbB.size hO1.base⟩, hbB.trans ((Below.trans hS (hC1.below hO)).mono hbB.size)⟩

end Go.Proofs.YtfgmlbmjjihhfaaGreatDoor

/- Walks of the reference's Offset, Local, UTC, times, Exists and Twice. -/
namespace Go.Proofs.YtfgmlbmjjihhfaaGreatDoor.Zon
open Go.RowKit Go.Shelf
set_option linter.unusedSimpArgs false
set_option linter.unusedVariables false

set_option maxRecDepth 100000 in
set_option maxHeartbeats 2000000 in
theorem rutc_any (o : Int) (A : Option Addr) (c : Nat) (l : Shs) (x : Int) (w : World) (ok : OkZ o l) (hL : ShL w A l) (hu : -1099511627776 ≤ x ∧ x ≤ 1099511627776) :
    Calls Tryz.prog 174 #[encZ o A l.length c, .int .i64 x] w fun e w' => e = .returned (.int .i64 (utcZ o l x)) ∧ Below w.heap.size w w' := by
  have hb0 := bel_alloc w (.cells #[.int .i64 o, .slice A l.length c] zoneT)
  have z0 := cells_new w #[.int .i64 o, .slice A l.length c] zoneT 0
  have z1 := cells_new w #[.int .i64 o, .slice A l.length c] zoneT 1
  simp only [List.getElem?_toArray, List.getElem?_cons_zero, List.getElem?_cons_succ] at z0 z1
  have hL0 := hL.more hb0
  have HU := Lib.hid (rut_is ok x)
  have hl := ok.len
  have ho := ok.off
  have hat := ok.at'
  have hsh := ok.shift
  clear hL ok
  generalize utcZ o l x = res at *
  go_enter Tryz.func174, Tryz.ntmps174
  go_wp2
  generalize hw0 : w.alloc (.cells #[.int .i64 o, .slice A l.length c] zoneT) = w0 at *
  go_loopw [5, 6] (fun vu vi wr => ∃ (k : Nat) (u : Int), k ≤ l.length ∧ vi = .int .i64 k ∧ vu = .int .i64 u ∧ Hid (rut l x (l.length - k) k u = res) ∧ Below w0.heap.size w0 wr) (fun _ vi _ => l.length - (intOf vi).toNat)
  case atStart => exact ⟨0, x - o, Nat.zero_le _, rfl, rfl, HU, Below.refl _ _⟩
  case round =>
    obtain ⟨k, u, hk, rfl, rfl, HK, hb⟩ := hrel
    have y1 := bel_cell hb z1
    by_cases hlt : k < l.length
    · obtain ⟨g, off, rfl, hgl, hcc⟩ := hL0.at hlt
      have i2 : (k : Int) < (l.length : Int) := by omega
      obtain ⟨g0, g1⟩ := hcc k hlt
      have HS := Lib.hid ((rut_step l x u k _ rfl hlt).symm.trans HK.out)
      have ha := hat k hlt
      have hf := hsh k hlt
      clear hcc hL0 hw0 HK hat hsh HU
      generalize shA l k = a at *
      generalize shF l k = f at *
      by_cases h : u < a
      · rw [if_pos h] at HS
        have gk0 := bel_cell hb g0
        go_wp2
        go_ret
        exact ⟨by rw [← HS.out]; rfl, hb0.trans (hb.mono hb0.size)⟩
      · rw [if_neg h] at HS
        have gk0 := bel_cell hb g0
        have q1 := SW.cell y1
        have q2 := SW.cell gk0
        have q3 := SW.cell (bel_cell hb g1)
        go_wp2
        have hNe : Nonempty (Wd (SW wr)) := ⟨⟨_, SW.drew _⟩⟩
        refine quietS (S := SW wr) (by kernel_rfl) (by kernel_rfl) (SW.drew _) ?_
        repeat (first | go_big_quiet_skip | (go_big_quiet_want; go_big_quiet_op; first | go_big_quiet_on | go_big_quiet_call ((fail))))
        refine wpQuiet_nil ?_
        rintro W ⟨⟨_, hW⟩, rfl⟩
        all_goals
          go_wp2
          go_roundw
          case rel => exact ⟨k + 1, max a (x - f), by omega, by go_num, by (first | rfl | (congr 1; omega)), HS, hb.trans (hW.mono hb.size)⟩
          case measure => simp [intOf]; omega
    · obtain rfl : k = l.length := by omega
      go_wp2
      go_ret
      exact ⟨by rw [← HK.out, rut_end _ _ _ _ _ (by omega)]; rfl, hb0.trans (hb.mono hb0.size)⟩

end Go.Proofs.YtfgmlbmjjihhfaaGreatDoor.Zon
