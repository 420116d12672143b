/- Walk of the law PlacesTriangle. -/
import Derived.Test.YtjokpfeiganigaaDoorPlaW
import Derived.Test.YtjokpfeiganigaaDoorPlaG0
import Derived.Test.YtjokpfeiganigaaDoorPlaV
namespace Go.Proofs.YtjokpfeiganigaaDoor
open Go.RowKit Go.Shelf
set_option linter.unusedSimpArgs false
set_option linter.unusedVariables false

theorem miles_of {l : List Air} {E : List Edg} {a b : ByteArray} (ha : cityP l a ≠ noB) (hb : cityP l b ≠ noB) : milesP l E a b = match disO E (cityP l a) (cityP l b) with
    | some n => ((n : Int), 0)
    | none => (0, 7) := by
  unfold milesP
  rw [if_neg (fun h => h.elim ha hb)]
  cases disO E (cityP l a) (cityP l b) <;> rfl
theorem miles_kinds (l : List Air) (E : List Edg) (a b : ByteArray) : milesP l E a b = (0, 14) ∨ milesP l E a b = (0, 7) ∨ ∃ n : Nat, milesP l E a b = ((n : Int), 0) ∧ cityP l a ≠ noB ∧ cityP l b ≠ noB ∧ disO E (cityP l a) (cityP l b) = some n := by
  by_cases h : cityP l a = noB ∨ cityP l b = noB
  · left; unfold milesP; rw [if_pos h]
  · have ha : cityP l a ≠ noB := fun e => h (.inl e)
    have hb : cityP l b ≠ noB := fun e => h (.inr e)
    rw [miles_of ha hb]
    cases hd : disO E (cityP l a) (cityP l b) with
    | none => right; left; rfl
    | some n => right; right; exact ⟨n, rfl, ha, hb, rfl⟩
theorem miles_sym (l : List Air) (ds : List Dst) (a b : ByteArray) : milesP l (edgs ds) b a = milesP l (edgs ds) a b := by
  unfold milesP
  rw [disO_sym ds (cityP l b) (cityP l a)]
  by_cases h : cityP l a = noB ∨ cityP l b = noB
  · rw [if_pos h, if_pos (Or.comm.1 h)]
  · rw [if_neg h, if_neg (fun e => h (Or.comm.1 e))]
theorem miles_self0 {l : List Air} {E : List Edg} {a : ByteArray} (h : cityP l a = noB) (b : ByteArray) : milesP l E a b = (0, 14) := by
  unfold milesP; rw [if_pos (.inl h)]
theorem miles_self1 {l : List Air} {E : List Edg} {a : ByteArray} (h : cityP l a ≠ noB) : milesP l E a a = (0, 0) := by
  rw [miles_of h h, disO_self]; rfl

abbrev trioT : TypeId := 46
set_option maxRecDepth 100000 in
set_option maxHeartbeats 8000000 in
theorem placesTriangle_walk (p : PV) (sA sB sC : ByteArray) (w : World) (hL : PlL w p) (hA : ∀ a ∈ p.l, OkA a) (hD : ∀ d ∈ p.ds, OkD d) (h1 : p.l.length < 9223372036854775808) (h2 : p.ds.length < 9223372036854775808) (zA : sA.size ≤ maxLen) (zB : sB.size ≤ maxLen) (zC : sC.size ≤ maxLen) :
    Calls Tryd.prog 6 #[encP p, .agg #[.string sA, .string sB, .string sC]] w fun e w' => e = .returned (.bool true) ∧ Below w.heap.size w w' := by
  have hb1 := bel_alloc w (.cells #[.slice p.A p.l.length p.ca, .slice p.D p.ds.length p.cd] placesT)
  have hb2 := bel_alloc (w.alloc (.cells #[.slice p.A p.l.length p.ca, .slice p.D p.ds.length p.cd] placesT)) (.cells #[.string sA, .string sB, .string sC] trioT)
  have hb0 : Below w.heap.size w ((w.alloc (.cells #[.slice p.A p.l.length p.ca, .slice p.D p.ds.length p.cd] placesT)).alloc (.cells #[.string sA, .string sB, .string sC] trioT)) := hb1.trans (hb2.mono hb1.size)
  have q0 := bel_cell hb2 ((cells_new w #[.slice p.A p.l.length p.ca, .slice p.D p.ds.length p.cd] placesT 0).trans (show _ = some _ from rfl))
  have q1 := bel_cell hb2 ((cells_new w #[.slice p.A p.l.length p.ca, .slice p.D p.ds.length p.cd] placesT 1).trans (show _ = some _ from rfl))
  have p0 := (cells_new (w.alloc (.cells #[.slice p.A p.l.length p.ca, .slice p.D p.ds.length p.cd] placesT)) #[.string sA, .string sB, .string sC] trioT 0).trans (show _ = some _ from rfl)
  have p1 := (cells_new (w.alloc (.cells #[.slice p.A p.l.length p.ca, .slice p.D p.ds.length p.cd] placesT)) #[.string sA, .string sB, .string sC] trioT 1).trans (show _ = some _ from rfl)
  have p2 := (cells_new (w.alloc (.cells #[.slice p.A p.l.length p.ca, .slice p.D p.ds.length p.cd] placesT)) #[.string sA, .string sB, .string sC] trioT 2).trans (show _ = some _ from rfl)
  rw [World.size_alloc] at p0 p1 p2
  have hL5 := hL.more hb0
  have y0 : ∀ W, SW ((w.alloc (.cells #[.slice p.A p.l.length p.ca, .slice p.D p.ds.length p.cd] placesT)).alloc (.cells #[.string sA, .string sB, .string sC] trioT)) W → W.cell? ⟨w.heap.size, 0, none⟩ = some (.slice p.A p.l.length p.ca) := bel_get q0
  have y1 : ∀ W, SW ((w.alloc (.cells #[.slice p.A p.l.length p.ca, .slice p.D p.ds.length p.cd] placesT)).alloc (.cells #[.string sA, .string sB, .string sC] trioT)) W → W.cell? ⟨w.heap.size, 1, none⟩ = some (.slice p.D p.ds.length p.cd) := bel_get q1
  have z0 : ∀ W, SW ((w.alloc (.cells #[.slice p.A p.l.length p.ca, .slice p.D p.ds.length p.cd] placesT)).alloc (.cells #[.string sA, .string sB, .string sC] trioT)) W → W.cell? ⟨w.heap.size + 1, 0, none⟩ = some (.string sA) := bel_get p0
  have z1 : ∀ W, SW ((w.alloc (.cells #[.slice p.A p.l.length p.ca, .slice p.D p.ds.length p.cd] placesT)).alloc (.cells #[.string sA, .string sB, .string sC] trioT)) W → W.cell? ⟨w.heap.size + 1, 1, none⟩ = some (.string sB) := bel_get p1
  have z2 : ∀ W, SW ((w.alloc (.cells #[.slice p.A p.l.length p.ca, .slice p.D p.ds.length p.cd] placesT)).alloc (.cells #[.string sA, .string sB, .string sC] trioT)) W → W.cell? ⟨w.heap.size + 1, 2, none⟩ = some (.string sC) := bel_get p2
  have KS : Hid (∀ W, SW ((w.alloc (.cells #[.slice p.A p.l.length p.ca, .slice p.D p.ds.length p.cd] placesT)).alloc (.cells #[.string sA, .string sB, .string sC] trioT)) W → Calls Tryd.prog 10 #[.agg #[.slice p.A p.l.length p.ca, .slice p.D p.ds.length p.cd]] W fun e w' => e = .returned (.bool (smallB p)) ∧ SW ((w.alloc (.cells #[.slice p.A p.l.length p.ca, .slice p.D p.ds.length p.cd] placesT)).alloc (.cells #[.string sA, .string sB, .string sC] trioT)) w') := Lib.hid (SW.call (w5 := ((w.alloc (.cells #[.slice p.A p.l.length p.ca, .slice p.D p.ds.length p.cd] placesT)).alloc (.cells #[.string sA, .string sB, .string sC] trioT))) (fun W hW => small_any p W (hL5.more hW).air h1 h2 (fun a ha => (hA a ha).len)))
  have KW := Lib.hid (SW.call (w5 := ((w.alloc (.cells #[.slice p.A p.l.length p.ca, .slice p.D p.ds.length p.cd] placesT)).alloc (.cells #[.string sA, .string sB, .string sC] trioT))) (fun W hW => awake_any W))
  have hS : SW ((w.alloc (.cells #[.slice p.A p.l.length p.ca, .slice p.D p.ds.length p.cd] placesT)).alloc (.cells #[.string sA, .string sB, .string sC] trioT)) ((w.alloc (.cells #[.slice p.A p.l.length p.ca, .slice p.D p.ds.length p.cd] placesT)).alloc (.cells #[.string sA, .string sB, .string sC] trioT)) := Below.refl _ _
  cases hs : smallB p
  case false =>
    rw [hs] at KS
    clear hs hL hL5
    go_enter Tryd.func6, Tryd.ntmps6
    go_wp2_with (first
      | (go_at_call 10; with_reducible refine (KS.out _ hS).mono ?_)
      | (go_at_call 11; with_reducible refine (KW.out _ hS).mono ?_)
      | (with_reducible rintro e w' ⟨rfl, hS⟩))
    go_ret
    exact ⟨rfl, hb0.trans (Below.mono hS hb0.size)⟩
  rw [hs] at KS
  simp only [smallB, Bool.and_eq_true, decide_eq_true_eq] at hs
  have ok : OkP p := ⟨hA, hD, hs.1.1, hs.1.2⟩
  have K : ∀ a b : ByteArray, a.size ≤ maxLen → b.size ≤ maxLen → Hid (∀ W, SW ((w.alloc (.cells #[.slice p.A p.l.length p.ca, .slice p.D p.ds.length p.cd] placesT)).alloc (.cells #[.string sA, .string sB, .string sC] trioT)) W → Calls Tryd.prog 22 #[.agg #[.slice p.A p.l.length p.ca, .slice p.D p.ds.length p.cd], .string a, .string b] W fun e w' => e = .returned (.tuple #[.int .i64 (milesP p.l (edgs p.ds) a b).1, .int .i64 (milesP p.l (edgs p.ds) a b).2]) ∧ SW ((w.alloc (.cells #[.slice p.A p.l.length p.ca, .slice p.D p.ds.length p.cd] placesT)).alloc (.cells #[.string sA, .string sB, .string sC] trioT)) w') :=
    fun a b ha hb => Lib.hid (SW.call (fun W hW => (miles_any p a b W ok (hL5.more hW) ha hb).mono (by rintro e w' ⟨rfl, h, _⟩; exact ⟨rfl, h⟩)))
  have KAB := K sA sB zA zB
  have KBA := K sB sA zB zA
  have KBC := K sB sC zB zC
  have KAC := K sA sC zA zC
  have KAA := K sA sA zA zA
  have KC : Hid (∀ W, SW ((w.alloc (.cells #[.slice p.A p.l.length p.ca, .slice p.D p.ds.length p.cd] placesT)).alloc (.cells #[.string sA, .string sB, .string sC] trioT)) W → Calls Tryd.prog 18 #[.agg #[.slice p.A p.l.length p.ca, .slice p.D p.ds.length p.cd], .string sA] W fun e w' => e = .returned (.string (cityP p.l sA)) ∧ SW ((w.alloc (.cells #[.slice p.A p.l.length p.ca, .slice p.D p.ds.length p.cd] placesT)).alloc (.cells #[.string sA, .string sB, .string sC] trioT)) w') := Lib.hid (SW.call (w5 := ((w.alloc (.cells #[.slice p.A p.l.length p.ca, .slice p.D p.ds.length p.cd] placesT)).alloc (.cells #[.string sA, .string sB, .string sC] trioT))) (fun W hW => city_any p sA W ok.la (hL5.more hW).air))
  rw [miles_sym] at KBA
  have dAC := miles_bd ok sA sC
  have dBC := miles_bd ok sB sC
  have dAB := miles_bd ok sA sB
  clear K hs hL hL5 h1 h2 zA zB zC hA hD p0 p1 p2 q0 q1 hb1 hb2
  have gAC : ∃ n e : Int, milesP p.l (edgs p.ds) sA sC = (n, e) := ⟨_, _, rfl⟩
  have gBC : ∃ n e : Int, milesP p.l (edgs p.ds) sB sC = (n, e) := ⟨_, _, rfl⟩
  by_cases hc : cityP p.l sA = noB
  · rw [miles_self0 hc] at KAA KAB KBA KAC
    obtain ⟨n2, e2, g2⟩ := gBC
    rw [g2] at KBC
    have hem := empty_yes hc
    generalize cityP p.l sA = c at *
    clear g2 gAC dAC dBC dAB hc
    go_enter Tryd.func6, Tryd.ntmps6
    go_wp2_with (first
      | (go_at_call 10; with_reducible refine (KS.out _ hS).mono ?_)
      | (go_at_call 11; with_reducible refine (KW.out _ hS).mono ?_)
      | (go_at_call 18; with_reducible refine (KC.out _ hS).mono ?_)
      | (go_at_call 22; first | (with_reducible refine (KAB.out _ hS).mono ?_) | (with_reducible refine (KBA.out _ hS).mono ?_) | (with_reducible refine (KBC.out _ hS).mono ?_) | (with_reducible refine (KAC.out _ hS).mono ?_) | (with_reducible refine (KAA.out _ hS).mono ?_))
      | (with_reducible rintro e w' ⟨rfl, hS⟩; have v0 := y0 _ hS; have v1 := y1 _ hS; have x0 := z0 _ hS; have x1 := z1 _ hS; have x2 := z2 _ hS))
    go_ret
    exact ⟨rfl, hb0.trans (Below.mono hS hb0.size)⟩
  have hem := empty_no hc
  rw [miles_self1 hc] at KAA
  rcases miles_kinds p.l (edgs p.ds) sA sB with hk | hk | ⟨n, hk, qa, qb, hn⟩
  · rw [hk] at KAB KBA
    obtain ⟨n2, e2, g2⟩ := gBC
    obtain ⟨n3, e3, g3⟩ := gAC
    rw [g2] at KBC
    rw [g3] at KAC
    generalize cityP p.l sA = c at *
    clear g2 g3 dAC dBC dAB hc hk
    go_enter Tryd.func6, Tryd.ntmps6
    go_wp2_with (first
      | (go_at_call 10; with_reducible refine (KS.out _ hS).mono ?_)
      | (go_at_call 11; with_reducible refine (KW.out _ hS).mono ?_)
      | (go_at_call 18; with_reducible refine (KC.out _ hS).mono ?_)
      | (go_at_call 22; first | (with_reducible refine (KAB.out _ hS).mono ?_) | (with_reducible refine (KBA.out _ hS).mono ?_) | (with_reducible refine (KBC.out _ hS).mono ?_) | (with_reducible refine (KAC.out _ hS).mono ?_) | (with_reducible refine (KAA.out _ hS).mono ?_))
      | (with_reducible rintro e w' ⟨rfl, hS⟩; have v0 := y0 _ hS; have v1 := y1 _ hS; have x0 := z0 _ hS; have x1 := z1 _ hS; have x2 := z2 _ hS))
    go_ret
    exact ⟨rfl, hb0.trans (Below.mono hS hb0.size)⟩
  · rw [hk] at KAB KBA
    obtain ⟨n2, e2, g2⟩ := gBC
    obtain ⟨n3, e3, g3⟩ := gAC
    rw [g2] at KBC
    rw [g3] at KAC
    generalize cityP p.l sA = c at *
    clear g2 g3 dAC dBC dAB hc hk
    go_enter Tryd.func6, Tryd.ntmps6
    go_wp2_with (first
      | (go_at_call 10; with_reducible refine (KS.out _ hS).mono ?_)
      | (go_at_call 11; with_reducible refine (KW.out _ hS).mono ?_)
      | (go_at_call 18; with_reducible refine (KC.out _ hS).mono ?_)
      | (go_at_call 22; first | (with_reducible refine (KAB.out _ hS).mono ?_) | (with_reducible refine (KBA.out _ hS).mono ?_) | (with_reducible refine (KBC.out _ hS).mono ?_) | (with_reducible refine (KAC.out _ hS).mono ?_) | (with_reducible refine (KAA.out _ hS).mono ?_))
      | (with_reducible rintro e w' ⟨rfl, hS⟩; have v0 := y0 _ hS; have v1 := y1 _ hS; have x0 := z0 _ hS; have x1 := z1 _ hS; have x2 := z2 _ hS))
    go_ret
    exact ⟨rfl, hb0.trans (Below.mono hS hb0.size)⟩
  rw [hk] at KAB KBA dAB
  rcases miles_kinds p.l (edgs p.ds) sB sC with hq | hq | ⟨m, hq, qc, qd, hm⟩
  · rw [hq] at KBC
    obtain ⟨n3, e3, g3⟩ := gAC
    rw [g3] at KAC
    generalize cityP p.l sA = c at *
    clear g3 dAC dBC dAB hc hk hq hn
    go_enter Tryd.func6, Tryd.ntmps6
    go_wp2_with (first
      | (go_at_call 10; with_reducible refine (KS.out _ hS).mono ?_)
      | (go_at_call 11; with_reducible refine (KW.out _ hS).mono ?_)
      | (go_at_call 18; with_reducible refine (KC.out _ hS).mono ?_)
      | (go_at_call 22; first | (with_reducible refine (KAB.out _ hS).mono ?_) | (with_reducible refine (KBA.out _ hS).mono ?_) | (with_reducible refine (KBC.out _ hS).mono ?_) | (with_reducible refine (KAC.out _ hS).mono ?_) | (with_reducible refine (KAA.out _ hS).mono ?_))
      | (with_reducible rintro e w' ⟨rfl, hS⟩; have v0 := y0 _ hS; have v1 := y1 _ hS; have x0 := z0 _ hS; have x1 := z1 _ hS; have x2 := z2 _ hS))
    go_ret
    exact ⟨rfl, hb0.trans (Below.mono hS hb0.size)⟩
  · rw [hq] at KBC
    obtain ⟨n3, e3, g3⟩ := gAC
    rw [g3] at KAC
    generalize cityP p.l sA = c at *
    clear g3 dAC dBC dAB hc hk hq hn
    go_enter Tryd.func6, Tryd.ntmps6
    go_wp2_with (first
      | (go_at_call 10; with_reducible refine (KS.out _ hS).mono ?_)
      | (go_at_call 11; with_reducible refine (KW.out _ hS).mono ?_)
      | (go_at_call 18; with_reducible refine (KC.out _ hS).mono ?_)
      | (go_at_call 22; first | (with_reducible refine (KAB.out _ hS).mono ?_) | (with_reducible refine (KBA.out _ hS).mono ?_) | (with_reducible refine (KBC.out _ hS).mono ?_) | (with_reducible refine (KAC.out _ hS).mono ?_) | (with_reducible refine (KAA.out _ hS).mono ?_))
      | (with_reducible rintro e w' ⟨rfl, hS⟩; have v0 := y0 _ hS; have v1 := y1 _ hS; have x0 := z0 _ hS; have x1 := z1 _ hS; have x2 := z2 _ hS))
    go_ret
    exact ⟨rfl, hb0.trans (Below.mono hS hb0.size)⟩
  obtain ⟨k, hk3, hle⟩ := disO_tri hn hm
  rw [hq] at KBC dBC
  have hAC : milesP p.l (edgs p.ds) sA sC = ((k : Int), 0) := by rw [miles_of qa qd, hk3]
  rw [hAC] at KAC
  have b1 := dAB.2.1
  have b2 := dBC.2.1
  dsimp only at b1 b2
  have i1 : IntKind.i64.wrap ((n : Int) + (m : Int)) = (n : Int) + (m : Int) := IntWalk.i64_in _ (by omega)
  have i2 : (k : Int) ≤ (n : Int) + (m : Int) := by omega
  generalize cityP p.l sA = c at *
  clear dAC dBC dAB hc hk hq hn hm hk3 hAC gAC gBC
  go_enter Tryd.func6, Tryd.ntmps6
  go_wp2_with (first
    | (go_at_call 10; with_reducible refine (KS.out _ hS).mono ?_)
    | (go_at_call 11; with_reducible refine (KW.out _ hS).mono ?_)
    | (go_at_call 18; with_reducible refine (KC.out _ hS).mono ?_)
    | (go_at_call 22; first | (with_reducible refine (KAB.out _ hS).mono ?_) | (with_reducible refine (KBA.out _ hS).mono ?_) | (with_reducible refine (KBC.out _ hS).mono ?_) | (with_reducible refine (KAC.out _ hS).mono ?_) | (with_reducible refine (KAA.out _ hS).mono ?_))
    | (with_reducible rintro e w' ⟨rfl, hS⟩; have v0 := y0 _ hS; have v1 := y1 _ hS; have x0 := z0 _ hS; have x1 := z1 _ hS; have x2 := z2 _ hS))
  go_ret
  exact ⟨rfl, hb0.trans (Below.mono hS hb0.size)⟩

end Go.Proofs.YtjokpfeiganigaaDoor
