/- Words and walks that the laws below ask: FrameH, PlaG0, PlaR, PlaY, PlaZ, PlaQA, PlaQB, RDec, PlaQC. -/
import Derived.Deep.CutRange
import Derived.Deep.Onto
import Derived.Lib.ItoaLen
import Derived.Deep.LoopGhost
import Derived.Test.YtdpcjafkahhecaaGreatDoorPk1
import Derived.Test.YtdpcjafkahhecaaGreatDoorPk2
import Derived.Test.YtdpcjafkahhecaaGreatDoorPk3
import Derived.Test.YtdpcjafkahhecaaGreatDoorPk4
import Derived.Test.YtdpcjafkahhecaaGreatDoorPk6
/- Lists of flights, questions and pairs of lists among the arguments, opened. -/
namespace Go.Proofs.YtdpcjafkahhecaaGreatDoor
open Go.ChangeShapes Go.WideShapes Go.ChangeAt Go.RowKit
set_option linter.unusedSimpArgs false
set_option linter.unusedVariables false

theorem cellsR_of6 {l : List Value} (h : l.length = 6) : ∃ a b c d e f, l = [a, b, c, d, e, f] := by
  match l, h with
  | [a, b, c, d, e, f], _ => exact ⟨a, b, c, d, e, f, rfl⟩
instance : Inhabited FV := ⟨fliZ⟩
set_option maxRecDepth 100000 in
theorem read_flights {H : Type} {enc : TypeId × Value → H} {W : World} {n : Nat} {v : Value} {y : DataW H × List MemPlace} (h : DataW.trod enc Tryz.prog W 0 (fun _ => true) true n 26 [v] = some y) :
    ∃ (A : Option Addr) (c : Nat) (l : List FV), v = .slice A l.length c ∧ TblL W (.slice A l.length c) l ∧ (∀ f ∈ l, OkFl f) ∧ l.length < 9223372036854775808 := by
  have em : maxLen = 9223372036854775807 := by decide
  rcases Deep.open_slice Tryz.underlying26 h with ⟨hcs, _⟩ | ⟨a, len, cap, m', n, D, Pl, hcs, _, hl, hm, hmm, _, hx⟩
  · simp at hcs
    exact ⟨none, 0, [], hcs, ⟨⟨none, 0, rfl, .inl rfl⟩, fun a ha => by simp at ha⟩, fun a ha => by simp at ha, by simp⟩
  · simp at hcs hmm
    subst hcs hmm
    rcases Nat.eq_zero_or_pos len with h0 | h0
    · exact ⟨some a, m', [], by rw [h0]; rfl, ⟨⟨some a, m', rfl, .inl rfl⟩, fun a ha => by simp at ha⟩, fun a ha => by simp at ha, by simp⟩
    obtain ⟨b, off, spot⟩ := a
    obtain ⟨cs0, hc0, _⟩ := hx 0 (by omega)
    have hspot : spot = none := by
      rw [cells_fli] at hc0
      obtain ⟨_, hl0, hcell⟩ := World.cells?_some hc0
      have h1 := hcell 0 (by omega)
      rw [List.getElem?_eq_getElem (by omega)] at h1
      simpa [Addr.add] using World.cell?_spot h1
    subst hspot
    have hadd : ∀ i, (⟨b, off, none⟩ : Addr).add i = ⟨b, off + i, none⟩ := fun i => by unfold Addr.add; split <;> simp_all
    have each : ∀ i, i < len → ∃ x : FV, (∀ j u, (encF6 x)[j]? = some u → W.cell? ⟨b, off + i * 6 + j, none⟩ = some u) ∧ LegL W (.slice x.A x.lg.length x.c) x.lg ∧ OkFl x := fun i hi => by
      obtain ⟨cs', h1, h2⟩ := hx i (by omega)
      rw [cells_fli, hadd] at h1
      obtain ⟨_, hlen, hcell⟩ := World.cells?_some h1
      obtain ⟨c0, c1, c2, c3, c4, c5, rfl⟩ := cellsR_of6 hlen
      obtain ⟨fv, e, h3, h4⟩ := read_flight h2
      have e' : ([c0, c1, c2, c3, c4, c5] : List Value) = encF6 fv := congrArg Array.toList e
      rw [e'] at hcell
      refine ⟨fv, fun j u hu => ?_, h3, h4⟩
      have hj : j < 6 := (List.getElem?_eq_some_iff.1 hu).1
      have hadd2 : ∀ i, (⟨b, off + i * 6, none⟩ : Addr).add j = ⟨b, off + i * 6 + j, none⟩ := fun i => by unfold Addr.add; split <;> simp_all
      have hc2 := hcell j hj
      rw [hadd2] at hc2
      rw [hc2]
      exact hu
    obtain ⟨f, hf⟩ := Deep.choose_lt each
    have el : ((List.range len).map f).length = len := by simp
    refine ⟨some ⟨b, off, none⟩, m', (List.range len).map f, by rw [el], ⟨⟨some ⟨b, off, none⟩, m', rfl, .inr ⟨b, off, rfl, World.block_lt_of_cell? _ _ ((hf 0 h0).1 0 _ rfl), fun i x j u hi hu => ?_⟩⟩, fun a ha => ?_⟩, fun a ha => ?_, by rw [el]; omega⟩
    · obtain ⟨h1, rfl⟩ := list_at f len i x hi
      exact (hf i h1).1 j u hu
    · obtain ⟨i, hi, rfl⟩ := List.mem_map.1 ha
      exact (hf i (List.mem_range.1 hi)).2.1
    · obtain ⟨i, hi, rfl⟩ := List.mem_map.1 ha
      exact (hf i (List.mem_range.1 hi)).2.2
set_option maxRecDepth 100000 in
/-- a list of flights by value, opened -/
theorem open_flights {H : Type} {enc : TypeId × Value → H} {W : World} {b0 : Nat} {v : Value} {d : DataW H} {p : List MemPlace} (hv : Value.okWide Tryz.prog W .any b0 26 v) (h : DataW.Trod enc Tryz.prog W 0 (fun _ => true) true 26 v d p) :
    ∃ (A : Option Addr) (c : Nat) (l : List FV), v = .slice A l.length c ∧ TblL W (.slice A l.length c) l ∧ (∀ f ∈ l, OkFl f) ∧ l.length < 9223372036854775808 := by
  obtain ⟨a, len, cap, rfl⟩ := okWide_slice Tryz.underlying26 hv
  obtain ⟨fuel, hf⟩ := h
  exact read_flights hf

/-! ### two timetables -/
end Go.Proofs.YtdpcjafkahhecaaGreatDoor

/- Walk of the law's Small. -/
namespace Go.Proofs.YtdpcjafkahhecaaGreatDoor
open Go.RowKit Go.Shelf
set_option linter.unusedSimpArgs false
set_option linter.unusedVariables false

def smallB (p : PV) : Bool := decide (p.l.length ≤ 40) && decide (p.ds.length ≤ 60) && p.l.all fun a => decide (a.shs.length ≤ 40)
theorem small_take (l : List Air) (k : Nat) (a : Air) (h : l[k]? = some a) (hp : (l.take k).all (fun a => decide (a.shs.length ≤ 40)) = true) (ha : a.shs.length ≤ 40) : (l.take (k + 1)).all (fun a => decide (a.shs.length ≤ 40)) = true := by
  rw [List.take_add_one, h, List.all_append, hp]
  simp [ha]

set_option maxRecDepth 100000 in
set_option maxHeartbeats 4000000 in
theorem small_any (p : PV) (w : World) (hL : AirL w p.A p.l) (h1 : p.l.length < 9223372036854775808) (h2 : p.ds.length < 9223372036854775808) (h3 : ∀ a ∈ p.l, a.shs.length < 9223372036854775808) :
    Calls Tryz.prog 24 #[encP p] w fun e w' => e = .returned (.bool (smallB p)) ∧ Below w.heap.size w w' := by
  obtain ⟨A, ca, l, D, cd, ds⟩ := p
  dsimp only at *
  have hb0 := bel_alloc w (.cells #[.slice A l.length ca, .slice D ds.length cd] placesT)
  have p0 := cells_new w #[.slice A l.length ca, .slice D ds.length cd] placesT 0
  have p1 := cells_new w #[.slice A l.length ca, .slice D ds.length cd] placesT 1
  simp only [List.getElem?_toArray, List.getElem?_cons_zero, List.getElem?_cons_succ] at p0 p1
  have hL5 := hL.more hb0
  by_cases hA : l.length ≤ 40
  · have i1 : ¬ (40 : Int) < (l.length : Int) := by omega
    by_cases hD : ds.length ≤ 60
    · have i2 : ¬ (60 : Int) < (ds.length : Int) := by omega
      have HB : Hid (smallB ⟨A, ca, l, D, cd, ds⟩ = l.all fun a => decide (a.shs.length ≤ 40)) := Lib.hid (by simp [smallB, hA, hD])
      go_enter Tryz.func24, Tryz.ntmps24
      go_wp2
      generalize w.alloc (.cells #[.slice A l.length ca, .slice D ds.length cd] placesT) = w5 at *
      go_loop [3] (fun vi => ∃ k : Nat, k ≤ l.length ∧ vi = .int .i64 k ∧ Hid ((l.take k).all (fun a => decide (a.shs.length ≤ 40)) = true)) (fun vi => l.length - (intOf vi).toNat)
      case atStart => exact ⟨0, Nat.zero_le _, rfl, Lib.hid rfl⟩
      case round =>
        obtain ⟨k, hk, rfl, HK⟩ := hrel
        by_cases hlt : k < l.length
        · obtain ⟨bb, off, a, rfl, hgl, hka, ha⟩ := hL5.at hlt
          have i3 : (k : Int) < (l.length : Int) := by omega
          have a4 := ha.c4
          have h3a := h3 a (List.mem_of_getElem? hka)
          by_cases hs : a.shs.length ≤ 40
          · have i4 : ¬ (40 : Int) < (a.shs.length : Int) := by omega
            have HN := Lib.hid (small_take l k a hka HK.out hs)
            clear ha hka hL hL5
            go_wp2
            go_round
            case rel => exact ⟨k + 1, by omega, by go_num, HN⟩
            case measure => simp [intOf]; omega
          · have i4 : (40 : Int) < (a.shs.length : Int) := by omega
            have HN : Hid ((l.all fun a => decide (a.shs.length ≤ 40)) = false) := Lib.hid (by
              rw [List.all_eq_false]
              exact ⟨a, List.mem_of_getElem? hka, by simp [hs]⟩)
            clear ha hka hL hL5
            go_wp2
            go_ret
            exact ⟨ret_bool (by rw [HB.out, HN.out]), hb0⟩
        · have e : l.take k = l := List.take_of_length_le (by omega)
          go_wp2
          go_ret
          exact ⟨ret_bool (by rw [HB.out, ← HK.out, e]), hb0⟩
    · have i2 : (60 : Int) < (ds.length : Int) := by omega
      have HB : Hid (smallB ⟨A, ca, l, D, cd, ds⟩ = false) := Lib.hid (by simp [smallB, hD])
      go_enter Tryz.func24, Tryz.ntmps24
      go_wp2
      go_ret
      exact ⟨ret_bool (by rw [HB.out]), hb0⟩
  · have i1 : (40 : Int) < (l.length : Int) := by omega
    have HB : Hid (smallB ⟨A, ca, l, D, cd, ds⟩ = false) := Lib.hid (by simp [smallB, hA])
    go_enter Tryz.func24, Tryz.ntmps24
    go_wp2
    go_ret
    exact ⟨ret_bool (by rw [HB.out]), hb0⟩

end Go.Proofs.YtdpcjafkahhecaaGreatDoor

/- Walks of the reference's Find and town. -/
namespace Go.Proofs.YtdpcjafkahhecaaGreatDoor
open Go.RowKit Go.Shelf
set_option linter.unusedSimpArgs false
set_option linter.unusedVariables false

theorem find_at {q : Air → Bool} {l : List Air} {k : Nat} {a : Air} (h : (l.take k).find? q = none) (hk : l[k]? = some a) : (q a = true → l.find? q = some a) ∧ (q a = false → (l.take (k + 1)).find? q = none) := by
  obtain ⟨hlt, rfl⟩ := List.getElem?_eq_some_iff.1 hk
  constructor
  · intro hp
    have e : l.take k ++ l.drop k = l := List.take_append_drop k l
    rw [List.drop_eq_getElem_cons hlt] at e
    have e2 : (l.take k ++ l[k] :: l.drop (k + 1)).find? q = some l[k] := by rw [List.find?_append, h, List.find?_cons, hp]; rfl
    rwa [e] at e2
  · intro hp
    rw [List.take_add_one, hk, List.find?_append, h]
    simp [hp]

set_option maxRecDepth 100000 in
set_option maxHeartbeats 4000000 in
theorem rfind_any (p : PV) (s : ByteArray) (w : World) (hl : p.l.length ≤ 40) (hL : AirL w p.A p.l) :
    Calls Tryz.prog 91 #[encP p, .string s] w fun e w' => e = .returned (.tuple #[encA ((findC p.l s).getD airZ), .bool (findC p.l s).isSome]) ∧ Below w.heap.size w w' := by
  obtain ⟨A, ca, l, D, cd, ds⟩ := p
  dsimp only at *
  have hb1 := bel_alloc w (.cells #[.slice A l.length ca, .slice D ds.length cd] placesT)
  have hb0 : Below w.heap.size w ((w.alloc (.cells #[.slice A l.length ca, .slice D ds.length cd] placesT)).alloc (.cells #[.string noB, .string noB, .string noB, .int .i64 0, .slice none 0 0] airT)) := hb1.alloc hb1.size _
  have hb2 := bel_alloc (w.alloc (.cells #[.slice A l.length ca, .slice D ds.length cd] placesT)) (.cells #[.string noB, .string noB, .string noB, .int .i64 0, .slice none 0 0] airT)
  have p0 := bel_cell hb2 ((cells_new w #[.slice A l.length ca, .slice D ds.length cd] placesT 0).trans (show _ = some _ from rfl))
  have p1 := bel_cell hb2 ((cells_new w #[.slice A l.length ca, .slice D ds.length cd] placesT 1).trans (show _ = some _ from rfl))
  have hN := heap_alloc_new (w.alloc (.cells #[.slice A l.length ca, .slice D ds.length cd] placesT)) (.cells #[.string noB, .string noB, .string noB, .int .i64 0, .slice none 0 0] airT)
  simp only [World.size_alloc] at hN
  have hL5 := hL.more hb0
  go_enter Tryz.func91, Tryz.ntmps91
  generalize hw5 : (w.alloc (.cells #[.slice A l.length ca, .slice D ds.length cd] placesT)).alloc (.cells #[.string noB, .string noB, .string noB, .int .i64 0, .slice none 0 0] airT) = w5 at *
  have hNl : w.heap.size + 1 < w5.heap.size := (Array.getElem?_eq_some_iff.1 hN).1
  have n0 := (cell_of_row w5 _ 0 _ _ (0, 0) hN).trans (show _ = some _ from rfl)
  have n1 := (cell_of_row w5 _ 1 _ _ (0, 0) hN).trans (show _ = some _ from rfl)
  have n2 := (cell_of_row w5 _ 2 _ _ (0, 0) hN).trans (show _ = some _ from rfl)
  have n3 := (cell_of_row w5 _ 3 _ _ (0, 0) hN).trans (show _ = some _ from rfl)
  have n4 := (cell_of_row w5 _ 4 _ _ (0, 0) hN).trans (show _ = some _ from rfl)
  have z0 := frozen_of_row w5 _ 0 _ _ hN
  have z1 := frozen_of_row w5 _ 1 _ _ hN
  have z2 := frozen_of_row w5 _ 2 _ _ hN
  have z3 := frozen_of_row w5 _ 3 _ _ hN
  have z4 := frozen_of_row w5 _ 4 _ _ hN
  have HN := Lib.hid hN
  have HB := Lib.hid hb0
  clear hb1 hb2 hN hb0 hL
  go_wp2
  go_loop [6] (fun vi => ∃ k : Nat, k ≤ l.length ∧ vi = .int .i64 k ∧ Hid ((l.take k).find? (fun a => eqS a.code s) = none)) (fun vi => l.length - (intOf vi).toNat)
  case atStart => exact ⟨0, Nat.zero_le _, rfl, Lib.hid rfl⟩
  case round =>
    obtain ⟨k, hk, rfl, HK⟩ := hrel
    by_cases hlt : k < l.length
    · obtain ⟨b, o, a, rfl, hgl, hka, ha⟩ := hL5.at hlt
      have i2 : (k : Int) < (l.length : Int) := by omega
      obtain ⟨a0, a1, a2, a3, a4, ash⟩ := ha
      have hf := Lib.hid (find_at HK.out hka)
      cases he : (a.code.toList == s.toList)
      · have HX := Lib.hid (hf.out.2 he)
        clear hka ash
        go_wp2
        go_round
        case rel => exact ⟨k + 1, by omega, by go_num, HX⟩
        case measure => simp [intOf]; omega
      · have HR : Hid (findC l s = some a) := Lib.hid (hf.out.1 he)
        clear hka ash hL5
        go_wp2
        have hx := S5.heap HN.out (.string a.code) (.string a.city) (.string a.land) (.int .i64 a.off) (.slice a.A a.shs.length a.c)
        have hbt := S5.but w5 (w.heap.size + 1) (.string a.code) (.string a.city) (.string a.land) (.int .i64 a.off) (.slice a.A a.shs.length a.c)
        have c0 := (cell_of_row _ _ 0 _ _ (0, 0) hx).trans (show _ = some _ from rfl)
        have c1 := (cell_of_row _ _ 1 _ _ (0, 0) hx).trans (show _ = some _ from rfl)
        have c2 := (cell_of_row _ _ 2 _ _ (0, 0) hx).trans (show _ = some _ from rfl)
        have c3 := (cell_of_row _ _ 3 _ _ (0, 0) hx).trans (show _ = some _ from rfl)
        have c4 := (cell_of_row _ _ 4 _ _ (0, 0) hx).trans (show _ = some _ from rfl)
        have hbw : Below w.heap.size w (S5 w5 (w.heap.size + 1) (.string a.code) (.string a.city) (.string a.land) (.int .i64 a.off) (.slice a.A a.shs.length a.c)) := HB.out.trans (hbt.below HB.out.size (fun k hk => by omega))
        refine bodyPost_ret (v := .tuple #[encA a, .bool true]) ?_ rfl ⟨by rw [HR.out]; rfl, hbw⟩
        change (results _ _).run Tryz.prog (S5 w5 (w.heap.size + 1) (.string a.code) (.string a.city) (.string a.land) (.int .i64 a.off) (.slice a.A a.shs.length a.c)) = .ok _ (S5 w5 (w.heap.size + 1) (.string a.code) (.string a.city) (.string a.land) (.int .i64 a.off) (.slice a.A a.shs.length a.c))
        generalize S5 w5 (w.heap.size + 1) (.string a.code) (.string a.city) (.string a.land) (.int .i64 a.off) (.slice a.A a.shs.length a.c) = W at c0 c1 c2 c3 c4 ⊢
        simp [results, Tryz.results91, go_sem, c0, c1, c2, c3, c4]
    · have HR : Hid (findC l s = none) := Lib.hid (by have h := HK.out; rwa [List.take_of_length_le (by omega)] at h)
      clear hL5
      go_wp2
      have hx := S5.heap HN.out (.string noB) (.string noB) (.string noB) (.int .i64 0) (.slice none 0 0)
      have hbt := S5.but w5 (w.heap.size + 1) (.string noB) (.string noB) (.string noB) (.int .i64 0) (.slice none 0 0)
      have c0 := (cell_of_row _ _ 0 _ _ (0, 0) hx).trans (show _ = some _ from rfl)
      have c1 := (cell_of_row _ _ 1 _ _ (0, 0) hx).trans (show _ = some _ from rfl)
      have c2 := (cell_of_row _ _ 2 _ _ (0, 0) hx).trans (show _ = some _ from rfl)
      have c3 := (cell_of_row _ _ 3 _ _ (0, 0) hx).trans (show _ = some _ from rfl)
      have c4 := (cell_of_row _ _ 4 _ _ (0, 0) hx).trans (show _ = some _ from rfl)
      have hbw : Below w.heap.size w (S5 w5 (w.heap.size + 1) (.string noB) (.string noB) (.string noB) (.int .i64 0) (.slice none 0 0)) := HB.out.trans (hbt.below HB.out.size (fun k hk => by omega))
      refine bodyPost_ret (v := .tuple #[encA airZ, .bool false]) ?_ rfl ⟨by rw [HR.out]; rfl, hbw⟩
      change (results _ _).run Tryz.prog (S5 w5 (w.heap.size + 1) (.string noB) (.string noB) (.string noB) (.int .i64 0) (.slice none 0 0)) = .ok _ (S5 w5 (w.heap.size + 1) (.string noB) (.string noB) (.string noB) (.int .i64 0) (.slice none 0 0))
      generalize S5 w5 (w.heap.size + 1) (.string noB) (.string noB) (.string noB) (.int .i64 0) (.slice none 0 0) = W at c0 c1 c2 c3 c4 ⊢
      simp [results, Tryz.results91, go_sem, c0, c1, c2, c3, c4, airZ]

end Go.Proofs.YtdpcjafkahhecaaGreatDoor

/- Walk of the reference's City. -/
namespace Go.Proofs.YtdpcjafkahhecaaGreatDoor
open Go.RowKit Go.Shelf
set_option linter.unusedSimpArgs false
set_option linter.unusedVariables false

end Go.Proofs.YtdpcjafkahhecaaGreatDoor

/- Walk of the reference's Country. -/
namespace Go.Proofs.YtdpcjafkahhecaaGreatDoor
open Go.RowKit Go.Shelf
set_option linter.unusedSimpArgs false
set_option linter.unusedVariables false

end Go.Proofs.YtdpcjafkahhecaaGreatDoor

/- Walk of the reference's airport. -/
namespace Go.Proofs.YtdpcjafkahhecaaGreatDoor
open Go.RowKit Go.Shelf
set_option linter.unusedSimpArgs false
set_option linter.unusedVariables false

abbrev errnT : TypeId := 35
def encE (x : Int) : List Value := [.int .i64 x]
theorem rtE : RT Tryz.prog 86 errnT 1 encE where
  ht := Tryz.underlying86
  info := ⟨.int .i64 0, 8, by kernel_rfl, rfl, by omega⟩
  len x := rfl
  one x u hu := by simp [encE] at hu; subst hu; rfl
  pos := by omega
abbrev EOwn (B : Nat) (w : World) (v : Value) (l : List Int) : Prop := ROwn errnT 1 encE B w v l
theorem rairp_any (s : ByteArray) (w : World) (hs : s.size ≤ maxLen) : Calls Tryz.prog 84 #[.string s] w fun e w' => e = .returned (.bool (capsB s 3)) ∧ w = w' := by
  go_enter Tryz.func84, Tryz.ntmps84
  go_wp2_with (go_at_call 118; refine (letters_any _ _ _ hs).mono ?_; rintro e w' ⟨rfl, rfl⟩)
  go_ret
  exact ⟨rfl, rfl⟩
theorem rland_any (s : ByteArray) (w : World) (hs : s.size ≤ maxLen) : Calls Tryz.prog 85 #[.string s] w fun e w' => e = .returned (.bool (capsB s 2)) ∧ w = w' := by
  go_enter Tryz.func85, Tryz.ntmps85
  go_wp2_with (go_at_call 118; refine (letters_any _ _ _ hs).mono ?_; rintro e w' ⟨rfl, rfl⟩)
  go_ret
  exact ⟨rfl, rfl⟩
theorem okE_app (a b : List Int) : okE (a ++ b) = okE a ++ okE b := by simp [okE]
theorem okE_one (e : Int) (h : e ≠ 0) : okE [e] = [e] := by simp [okE, h]
theorem any_take {α : Type} (q : α → Bool) (l : List α) (k : Nat) (a : α) (h : l[k]? = some a) : (l.take (k + 1)).any q = ((l.take k).any q || q a) := by
  rw [List.take_add_one, h, List.any_append]
  simp
theorem eqB (a b : ByteArray) : (a.toList == b.toList) = decide (a = b) := by
  by_cases h : a = b
  · subst h; simp
  · rw [decide_eq_false h]
    cases hh : (a.toList == b.toList) with
    | false => rfl
    | true => exact absurd ((eqS_iff a b).1 hh) h

end Go.Proofs.YtdpcjafkahhecaaGreatDoor

/- Walk of the reference's distance. -/
namespace Go.Proofs.YtdpcjafkahhecaaGreatDoor
open Go.RowKit Go.Shelf
set_option linter.unusedSimpArgs false
set_option linter.unusedVariables false

theorem town_any (l : List Air) (s : ByteArray) : (findT l s).isSome = l.any fun b => decide (b.city = s) := by
  have e : (fun b : Air => decide (b.city = s)) = fun b => eqS b.city s := by
    funext b
    unfold eqS
    rw [eqB]
  rw [e]
  unfold findT
  rw [Bool.eq_iff_iff, List.find?_isSome, List.any_eq_true]

end Go.Proofs.YtdpcjafkahhecaaGreatDoor

/- Walks of the reference: digits, Decimal (a copy of TextG that stands without the rest of stage 1). -/
namespace Go.Proofs.YtdpcjafkahhecaaGreatDoor
open Go.RowKit
set_option linter.unusedSimpArgs false
set_option linter.unusedVariables false

def tenA : ByteArray := ⟨#[48, 49, 50, 51, 52, 53, 54, 55, 56, 57]⟩
theorem ten_all : ∀ n : Fin 10, (tenA.extract n.val (n.val + 1)).data.toList = [UInt8.ofNat (48 + n.val)] := by decide +kernel
theorem ten_cut (n m : Nat) (h : n < 10) (hm : m = n + 1) : (⟨#[48, 49, 50, 51, 52, 53, 54, 55, 56, 57]⟩ : ByteArray).extract n m = ⟨[UInt8.ofNat (48 + n)].toArray⟩ := by
  subst hm
  exact WideShapes.bytes_inj (ten_all ⟨n, h⟩)

theorem quiet_ex {P : Program} {f : FuncId} {args : Array Value} {w : World} {n : Nat} {v : Value} (h : ∀ W, Calls P f args W fun e w' => e = .returned v ∧ ∃ m, w' = W.drewN m) :
    Calls P f args (w.drewN n) fun e w'' => e = .returned v ∧ ∃ m, w'' = w.drewN m :=
  (h _).mono fun _ _ ⟨he, m, hm⟩ => ⟨he, n + m, by rw [hm, World.drewN_drewN]⟩
theorem dec_len (u : Nat) (h : u ≤ 9223372036854775807) : (⟨(Lib.decDigits u).toArray⟩ : ByteArray).size ≤ 21 := by
  have h1 := Lib.itoa_length_le (u : Int) (by omega) (by omega)
  have h2 : Lib.itoa (u : Int) = Lib.decDigits u := by
    unfold Lib.itoa
    rw [if_neg (by omega)]
    congr 1
  rw [h2] at h1
  simpa [ByteArray.size] using h1
def U64 (n : Nat) : Prop := n < 18446744073709551616
theorem u64_div (n : Nat) (h : U64 n) : IntKind.u64.wrap ((n : Int) / 10) = (n : Int) / 10 := by rw [IntKind.wrap_u64]; unfold U64 at h; omega

set_option maxRecDepth 100000 in
set_option maxHeartbeats 1000000 in
theorem rdigits_any : ∀ (n : Nat) (w : World), U64 n →
    Calls Tryz.prog 69 #[.int .u64 n] w fun e w' => e = .returned (.string ⟨(Lib.decDigits n).toArray⟩) ∧ ∃ k, w' = w.drewN k
  | n, w, hn => by
    by_cases h : n < 10
    · have HD : Hid (Lib.decDigits n = [UInt8.ofNat (48 + n)]) := Lib.hid (decDigits_small n h)
      have b1 : (n : Int) < 10 := by omega
      have HC := Lib.hid (ten_cut n (n + 1) h rfl)
      go_enter Tryz.func69, Tryz.ntmps69
      go_wp2
      go_ret
      exact ⟨by rw [HD.out, ← HC.out]; rfl, 0, rfl⟩
    · have ih : ∀ w, Calls Tryz.prog 69 #[.int .u64 ((n : Int) / 10)] w fun e w' => e = .returned (.string ⟨(Lib.decDigits (n / 10)).toArray⟩) ∧ ∃ k, w' = w.drewN k := by
        intro w
        rw [show ((n : Int) / 10) = ((n / 10 : Nat) : Int) from by omega]
        exact rdigits_any (n / 10) w (by unfold U64 at hn ⊢; omega)
      have HIH := Lib.hid ih
      have e1 := u64_div n hn
      have e2 : ((n : Int)).tmod 10 = (n : Int) % 10 := Int.tmod_eq_emod_of_nonneg (by omega)
      have e3 : IntKind.u64.wrap ((n : Int) % 10 + 1) = (n : Int) % 10 + 1 := by rw [IntKind.wrap_u64]; omega
      have HF : Hid ((⟨(Lib.decDigits (n / 10)).toArray⟩ : ByteArray) ++ (⟨#[48, 49, 50, 51, 52, 53, 54, 55, 56, 57]⟩ : ByteArray).extract ((n : Int) % 10).toNat ((n : Int) % 10 + 1).toNat = ⟨(Lib.decDigits n).toArray⟩) := Lib.hid (by
        rw [ten_cut ((n : Int) % 10).toNat ((n : Int) % 10 + 1).toNat (by omega) (by omega), decDigits_step n (by omega)]
        apply WideShapes.bytes_inj
        rw [show ((n : Int) % 10).toNat = n % 10 from by omega]
        simp)
      have hadd := fun W => run_string_add_sum (P := Tryz.prog) (w := W) (⟨(Lib.decDigits (n / 10)).toArray⟩ : ByteArray) ((⟨#[48, 49, 50, 51, 52, 53, 54, 55, 56, 57]⟩ : ByteArray).extract ((n : Int) % 10).toNat ((n : Int) % 10 + 1).toNat) (by
        have h1 := dec_len (n / 10) (by unfold U64 at hn; omega)
        have h2 : ((⟨#[48, 49, 50, 51, 52, 53, 54, 55, 56, 57]⟩ : ByteArray).extract ((n : Int) % 10).toNat ((n : Int) % 10 + 1).toNat).size ≤ 10 := by
          rw [ByteArray.size_extract]; show min _ 10 - _ ≤ 10; omega
        omega)
      clear ih hn
      have b1 : ¬ (n : Int) < 10 := by omega
      have c1 : (0 : Int) ≤ (n : Int) % 10 := by omega
      have c2 : (n : Int) % 10 < 10 := by omega
      have hsl := fun W => run_slice_string (P := Tryz.prog) W 9 (⟨#[48, 49, 50, 51, 52, 53, 54, 55, 56, 57]⟩ : ByteArray) .u64 .u64 ((n : Int) % 10) ((n : Int) % 10 + 1) Tryz.underlying9 c1 (by omega) (by show (n : Int) % 10 + 1 ≤ 10; omega)
      go_enter Tryz.func69, Tryz.ntmps69
      go_wp2_with (fail)
      go_quiet ((go_at_call 69; exact quiet_ex HIH.out))
      go_wp2
      go_ret
      exact ⟨by rw [← HF.out]; rfl, _, rfl⟩
termination_by n => n
decreasing_by omega

theorem neg_arg (n : Int) (h0 : -9223372036854775808 ≤ n) (hn : n < 0) : IntKind.u64.wrap (IntKind.u64.wrap (wrap64 (-wrap64 (n + 1))) + 1) = (n.natAbs : Int) := by
  have e1 : wrap64 (n + 1) = n + 1 := by unfold wrap64; omega
  have e2 : wrap64 (-(n + 1)) = -(n + 1) := by unfold wrap64; omega
  rw [e1, e2, IntKind.wrap_u64, IntKind.wrap_u64]
  omega
theorem pos_arg (n : Int) (h1 : n ≤ 9223372036854775807) (hn : ¬ n < 0) : IntKind.u64.wrap n = (n.toNat : Int) := by
  rw [IntKind.wrap_u64]
  omega
set_option maxRecDepth 100000 in
set_option maxHeartbeats 1000000 in
theorem rdecimal_any (n : Int) (w : World) (h0 : -9223372036854775808 ≤ n) (h1 : n ≤ 9223372036854775807) :
    Calls Tryz.prog 42 #[.int .i64 n] w fun e w' => e = .returned (.string ⟨(Lib.itoa n).toArray⟩) ∧ ∃ k, w' = w.drewN k := by
  by_cases hn : n < 0
  · have HC : Hid (∀ w, Calls Tryz.prog 69 #[.int .u64 (IntKind.u64.wrap (IntKind.u64.wrap (wrap64 (-wrap64 (n + 1))) + 1))] w fun e w' => e = .returned (.string ⟨(Lib.decDigits n.natAbs).toArray⟩) ∧ ∃ k, w' = w.drewN k) := Lib.hid (by
      intro w; rw [neg_arg n h0 hn]; exact rdigits_any n.natAbs w (by unfold U64; omega))
    have HF : Hid ((⟨#[45]⟩ : ByteArray) ++ (⟨(Lib.decDigits n.natAbs).toArray⟩ : ByteArray) = ⟨(Lib.itoa n).toArray⟩) := Lib.hid (by
      apply WideShapes.bytes_inj
      unfold Lib.itoa
      rw [if_pos hn]
      simp)
    have hlen : (⟨#[45]⟩ : ByteArray).size + (⟨(Lib.decDigits n.natAbs).toArray⟩ : ByteArray).size ≤ 9223372036854775807 := by
      have h2 := Lib.itoa_length_le n h0 h1
      unfold Lib.itoa at h2
      rw [if_pos hn] at h2
      have h3 : (⟨(Lib.decDigits n.natAbs).toArray⟩ : ByteArray).size = (Lib.decDigits n.natAbs).length := by simp [ByteArray.size]
      have h4 : (⟨#[45]⟩ : ByteArray).size = 1 := rfl
      simp only [List.length_cons] at h2
      omega
    have hadd := fun W => run_string_add_sum (P := Tryz.prog) (w := W) (⟨#[45]⟩ : ByteArray) (⟨(Lib.decDigits n.natAbs).toArray⟩ : ByteArray) hlen
    clear h0 h1 hlen
    go_enter Tryz.func42, Tryz.ntmps42
    go_wp2_with (go_at_call 69; refine (HC.out _).mono ?_; rintro e w' ⟨rfl, k, rfl⟩)
    go_ret
    exact ⟨by rw [← HF.out]; rfl, k, rfl⟩
  · have HC : Hid (∀ w, Calls Tryz.prog 69 #[.int .u64 (IntKind.u64.wrap n)] w fun e w' => e = .returned (.string ⟨(Lib.decDigits n.toNat).toArray⟩) ∧ ∃ k, w' = w.drewN k) := Lib.hid (by
      intro w; rw [pos_arg n h1 hn]; exact rdigits_any n.toNat w (by unfold U64; omega))
    have HF : Hid ((⟨(Lib.decDigits n.toNat).toArray⟩ : ByteArray) = ⟨(Lib.itoa n).toArray⟩) := Lib.hid (by
      unfold Lib.itoa
      rw [if_neg hn])
    clear h0 h1
    go_enter Tryz.func42, Tryz.ntmps42
    go_wp2_with (go_at_call 69; refine (HC.out _).mono ?_; rintro e w' ⟨rfl, k, rfl⟩)
    go_ret
    exact ⟨by rw [← HF.out]; rfl, k, rfl⟩
end Go.Proofs.YtdpcjafkahhecaaGreatDoor

/- Walk of the reference's Check of places. -/
namespace Go.Proofs.YtdpcjafkahhecaaGreatDoor
open Go.RowKit Go.Shelf
set_option linter.unusedSimpArgs false
set_option linter.unusedVariables false

theorem rdec_small (k : Nat) (h : k < 100) (w : World) : Calls Tryz.prog 42 #[.int .i64 (k : Int)] w fun e w' => e = .returned (.string (decA k)) ∧ Below w.heap.size w w' :=
  (rdecimal_any (k : Int) w (by omega) (by omega)).mono (by rintro e w' ⟨rfl, n, rfl⟩; exact ⟨rfl, below_drewN (Below.refl _ _) n⟩)
def tag (s : ByteArray) (es : List Int) : List Flt := es.map fun e => (e, s)
theorem tag_succ (s : ByteArray) (es : List Int) (k : Nat) (h : k < es.length) : tag s (es.take (k + 1)) = tag s (es.take k) ++ [(es[k], s)] := by
  unfold tag
  rw [← List.take_append_getElem h, List.map_append]
  rfl
theorem okE_le (es : List Int) : (okE es).length ≤ es.length := List.length_filter_le _ _
theorem airE_len (l : List Air) (a : Air) : (airE l a).length = 4 := rfl
theorem dstE_len (l : List Air) (L : List Dst) (d : Dst) : (dstE l L d).length = 3 := rfl

end Go.Proofs.YtdpcjafkahhecaaGreatDoor
