/- Walk of the law PlacesFinds. -/
import Derived.Test.YtjokpfeiganigaaDoorPlaX
import Derived.Test.YtjokpfeiganigaaDoorPlaN1
import Derived.Deep.CutRange
namespace Go.Proofs.YtjokpfeiganigaaDoor
open Go.RowKit Go.Shelf
set_option linter.unusedSimpArgs false
set_option linter.unusedVariables false

theorem city_city (l : List Air) (s : ByteArray) (h : findC l (cityP l s) = none) : cityP l (cityP l s) = cityP l s := by
  have e : ∀ c, findC l c = none → ((findT l c).isSome = true ∨ c = noB) → cityP l c = c := by
    intro c h1 h2
    unfold cityP
    rw [h1]
    dsimp only
    rcases h2 with h2 | h2
    · rw [if_pos h2]
    · split
      · rfl
      · exact h2.symm
  refine e _ h ?_
  cases hc : findC l s with
  | some a =>
    left
    have hm := List.mem_of_find?_eq_some hc
    have : cityP l s = a.city := by unfold cityP; rw [hc]
    rw [this]
    unfold findT
    rw [List.find?_isSome]
    exact ⟨a, hm, eqS_self _⟩
  | none =>
    by_cases ht : (findT l s).isSome = true
    · left
      have : cityP l s = s := by unfold cityP; rw [hc]; dsimp only; rw [if_pos ht]
      rw [this]
      exact ht
    · right
      unfold cityP
      rw [hc]
      dsimp only
      rw [if_neg ht]

abbrev bP (w : World) (p : PV) : World := w.alloc (.cells #[.slice p.A p.l.length p.ca, .slice p.D p.ds.length p.cd] placesT)
set_option maxRecDepth 100000 in
set_option maxHeartbeats 8000000 in
theorem placesFinds_walk (p : PV) (sA : ByteArray) (w : World) (hL : PlL w p) (hA : ∀ a ∈ p.l, OkA a) (hD : ∀ d ∈ p.ds, OkD d) (h1 : p.l.length < 9223372036854775808) (h2 : p.ds.length < 9223372036854775808) (zA : sA.size ≤ maxLen) :
    Calls Tryd.prog 4 #[encP p, .string sA] w fun e w' => e = .returned (.bool true) ∧ Below w.heap.size w w' := by
  have hb0 := bel_alloc w (.cells #[.slice p.A p.l.length p.ca, .slice p.D p.ds.length p.cd] placesT)
  have q0 := (cells_new w #[.slice p.A p.l.length p.ca, .slice p.D p.ds.length p.cd] placesT 0).trans (show _ = some _ from rfl)
  have q1 := (cells_new w #[.slice p.A p.l.length p.ca, .slice p.D p.ds.length p.cd] placesT 1).trans (show _ = some _ from rfl)
  have hL5 := hL.more hb0
  go_enter Tryd.func4, Tryd.ntmps4
  go_upto_region 1 with fail
  generalize hw5 : w.alloc (.cells #[.slice p.A p.l.length p.ca, .slice p.D p.ds.length p.cd] placesT) = w5 at *
  clear hw5
  have y0 := bel_get q0
  have y1 := bel_get q1
  have KS : Hid (∀ W, SW w5 W → Calls Tryd.prog 10 #[.agg #[.slice p.A p.l.length p.ca, .slice p.D p.ds.length p.cd]] W fun e w' => e = .returned (.bool (smallB p)) ∧ SW w5 w') := Lib.hid (SW.call (w5 := w5) (fun W hW => small_any p W (hL5.more hW).air h1 h2 (fun a ha => (hA a ha).len)))
  have KW := Lib.hid (SW.call (w5 := w5) (fun W hW => awake_any W))
  have hS : SW w5 w5 := Below.refl _ _
  have v0 := y0 _ hS
  have v1 := y1 _ hS
  cases hs : smallB p
  case false =>
    rw [hs] at KS
    clear hs hL hL5
    go_wp2_with (first
      | (go_at_call 10; with_reducible refine (KS.out _ hS).mono ?_)
      | (go_at_call 11; with_reducible refine (KW.out _ hS).mono ?_)
      | (with_reducible rintro e w' ⟨rfl, hS⟩))
    go_ret
    exact ⟨rfl, hb0.trans (Below.mono hS hb0.size)⟩
  rw [hs] at KS
  simp only [smallB, Bool.and_eq_true, decide_eq_true_eq] at hs
  have hall : ∀ a ∈ p.l, a.shs.length ≤ 40 := by
    have := List.all_eq_true.1 hs.2
    intro a ha
    simpa using this a ha
  have hla : p.l.length ≤ 40 := hs.1.1
  have KF := Lib.hid (fun W (h : SW w5 W) => find_any p sA W hla (hL5.more h).air hall)
  have KR := Lib.hid (fun W (h : SW w5 W) => rfind_any p sA W hla (hL5.more h).air)
  have KR2 := Lib.hid (SW.call (w5 := w5) (fun W h => rfind_any p (cityP p.l sA) W hla (hL5.more h).air))
  have KC := Lib.hid (SW.call (w5 := w5) (fun W h => city_any p sA W hla (hL5.more h).air))
  have KCb := Lib.hid (fun W (h : SW w5 W) => city_any p sA W hla (hL5.more h).air)
  have KC2 := Lib.hid (SW.call (w5 := w5) (fun W h => city_any p (cityP p.l sA) W hla (hL5.more h).air))
  have KRC := Lib.hid (SW.call (w5 := w5) (fun W h => rcity_any p sA W hla (hL5.more h).air))
  have KRCb := Lib.hid (fun W (h : SW w5 W) => rcity_any p sA W hla (hL5.more h).air)
  have KL := Lib.hid (SW.call (w5 := w5) (fun W h => country_any p sA W hla (hL5.more h).air))
  have KLb := Lib.hid (fun W (h : SW w5 W) => country_any p sA W hla (hL5.more h).air)
  have KRL := Lib.hid (SW.call (w5 := w5) (fun W h => rcountry_any p sA W hla (hL5.more h).air))
  have KRLb := Lib.hid (fun W (h : SW w5 W) => rcountry_any p sA W hla (hL5.more h).air)
  have HCC := Lib.hid (city_city p.l sA)
  have HSH : Hid (∀ a, findC p.l sA = some a → (∀ W, SW w5 W → ShL W a.A a.shs) ∧ a.shs.length ≤ 40) := Lib.hid (fun a ha => by
    have hm := List.mem_of_find?_eq_some ha
    obtain ⟨k, hk⟩ := List.getElem?_of_mem hm
    obtain ⟨_, _, a', _, _, hka', ha'⟩ := hL5.air.at (List.getElem?_eq_some_iff.1 hk).1
    rw [hk] at hka'
    obtain rfl := Option.some.inj hka'
    exact ⟨fun W hW => ha'.sh.more hW, hall a hm⟩)
  clear hs hL hL5 hall hla h1 h2 hA hD q0 q1
  generalize cityP p.l sA = c at *
  generalize landP p.l sA = ld at *
  cases hf : findC p.l sA with
  | none =>
    rw [hf] at KF KR
    simp only [FindR, encA, airZ, Option.getD_none, Option.isSome_none, List.length_nil] at KF KR
    have KSA : Hid (∀ W, True → Calls Tryd.prog 17 #[.agg #[.string noB, .string noB, .string noB, .int .i64 0, .slice none 0 0], .agg #[.string noB, .string noB, .string noB, .int .i64 0, .slice none 0 0]] W fun e w' => e = .returned (.bool true) ∧ Below W.heap.size W w') := Lib.hid (fun W _ => sameA_any airZ none 0 W (.inl rfl) (.inl rfl) (by simp [airZ]))
    clear HSH hf
    go_upto_region 5 with (first
      | (go_at_call 10; with_reducible refine (KS.out _ hS).mono ?_; rintro e w' ⟨rfl, hS⟩; have v0 := y0 _ hS; have v1 := y1 _ hS)
      | (go_at_call 16; refine (KR.out _ hS2).mono ?_; rintro e w2 ⟨rfl, hb2⟩)
      | (go_at_call 15; refine (KF.out _ hS).mono ?_; rintro e w1 ⟨hb1, rfl⟩; have hS1 : SW w5 w1 := Below.trans hS (Below.mono hb1 hS.size); have hS2 : SW w5 (w1.alloc (.cells #[.string noB, .string noB, .string noB, .int .i64 0, .slice none 0 0] airT)) := Below.alloc hS1 hS1.size _; have v0 := y0 _ hS2; have v1 := y1 _ hS2))
    have hS3 : SW w5 w2 := Below.trans hS2 (Below.mono hb2 hS2.size)
    have hS4 : SW w5 (w2.alloc (.cells #[.string noB, .string noB, .string noB, .int .i64 0, .slice none 0 0] airT)) := Below.alloc hS3 hS3.size _
    have hb3 := bel_alloc w2 (.cells #[.string noB, .string noB, .string noB, .int .i64 0, .slice none 0 0] airT)
    have n0 := bel_cell hb3 (bel_cell hb2 ((cells_new w1 #[.string noB, .string noB, .string noB, .int .i64 0, .slice none 0 0] airT 0).trans (show _ = some _ from rfl)))
    have n1 := bel_cell hb3 (bel_cell hb2 ((cells_new w1 #[.string noB, .string noB, .string noB, .int .i64 0, .slice none 0 0] airT 1).trans (show _ = some _ from rfl)))
    have n2 := bel_cell hb3 (bel_cell hb2 ((cells_new w1 #[.string noB, .string noB, .string noB, .int .i64 0, .slice none 0 0] airT 2).trans (show _ = some _ from rfl)))
    have n3 := bel_cell hb3 (bel_cell hb2 ((cells_new w1 #[.string noB, .string noB, .string noB, .int .i64 0, .slice none 0 0] airT 3).trans (show _ = some _ from rfl)))
    have n4 := bel_cell hb3 (bel_cell hb2 ((cells_new w1 #[.string noB, .string noB, .string noB, .int .i64 0, .slice none 0 0] airT 4).trans (show _ = some _ from rfl)))
    have m0 := (cells_new w2 #[.string noB, .string noB, .string noB, .int .i64 0, .slice none 0 0] airT 0).trans (show _ = some _ from rfl)
    have m1 := (cells_new w2 #[.string noB, .string noB, .string noB, .int .i64 0, .slice none 0 0] airT 1).trans (show _ = some _ from rfl)
    have m2 := (cells_new w2 #[.string noB, .string noB, .string noB, .int .i64 0, .slice none 0 0] airT 2).trans (show _ = some _ from rfl)
    have m3 := (cells_new w2 #[.string noB, .string noB, .string noB, .int .i64 0, .slice none 0 0] airT 3).trans (show _ = some _ from rfl)
    have m4 := (cells_new w2 #[.string noB, .string noB, .string noB, .int .i64 0, .slice none 0 0] airT 4).trans (show _ = some _ from rfl)
    have yy0 := y0 _ hS4
    have yy1 := y1 _ hS4
    generalize hw7 : w2.alloc (.cells #[.string noB, .string noB, .string noB, .int .i64 0, .slice none 0 0] airT) = w7 at *
    clear hw7 hb3
    have fn0 := SW.cell n0
    have fm0 := SW.cell m0
    have fn1 := SW.cell n1
    have fm1 := SW.cell m1
    have fn2 := SW.cell n2
    have fm2 := SW.cell m2
    have fn3 := SW.cell n3
    have fm3 := SW.cell m3
    have fn4 := SW.cell n4
    have fm4 := SW.cell m4
    have fy0 := SW.cell yy0
    have fy1 := SW.cell yy1
    have KSB := Lib.hid (SW.call (w5 := w7) (fun W hW => KSA.out W trivial))
    have up : ∀ W, SW w7 W → SW w5 W := fun W h => Below.trans hS4 (Below.mono h hS4.size)
    have KCq : Hid (∀ W, SW w7 W → Calls Tryd.prog 18 #[.agg #[.slice p.A p.l.length p.ca, .slice p.D p.ds.length p.cd], .string sA] W fun e w' => e = .returned (.string c) ∧ SW w7 w') := Lib.hid (SW.call (w5 := w7) (fun W h => KCb.out W (up W h)))
    have KRCq : Hid (∀ W, SW w7 W → Calls Tryd.prog 19 #[.agg #[.slice p.A p.l.length p.ca, .slice p.D p.ds.length p.cd], .string sA] W fun e w' => e = .returned (.string c) ∧ SW w7 w') := Lib.hid (SW.call (w5 := w7) (fun W h => KRCb.out W (up W h)))
    have KLq : Hid (∀ W, SW w7 W → Calls Tryd.prog 20 #[.agg #[.slice p.A p.l.length p.ca, .slice p.D p.ds.length p.cd], .string sA] W fun e w' => e = .returned (.string ld) ∧ SW w7 w') := Lib.hid (SW.call (w5 := w7) (fun W h => KLb.out W (up W h)))
    have KRLq : Hid (∀ W, SW w7 W → Calls Tryd.prog 21 #[.agg #[.slice p.A p.l.length p.ca, .slice p.D p.ds.length p.cd], .string sA] W fun e w' => e = .returned (.string ld) ∧ SW w7 w') := Lib.hid (SW.call (w5 := w7) (fun W h => KRLb.out W (up W h)))
    have hNe : Nonempty (Wd (SW w7)) := ⟨⟨_, SW.drew _⟩⟩
    refine quietS (S := SW w7) (by kernel_rfl) (by kernel_rfl) (SW.drew _) ?_
    repeat (first | go_big_quiet_skip | (go_big_quiet_want; go_big_quiet_op; first | go_big_quiet_on | go_big_quiet_call ((first | (go_at_call 17; (with_reducible exact quiet_S (KSB.out _ (Wd.ok _)))) | (go_at_call 18; (with_reducible exact quiet_S (KCq.out _ (Wd.ok _)))) | (go_at_call 19; (with_reducible exact quiet_S (KRCq.out _ (Wd.ok _)))) | (go_at_call 20; (with_reducible exact quiet_S (KLq.out _ (Wd.ok _)))) | (go_at_call 21; (with_reducible exact quiet_S (KRLq.out _ (Wd.ok _))))))))
    refine wpQuiet_nil ?_
    rintro W ⟨⟨_, hW⟩, rfl⟩
    have hS := up _ hW
    have v0 := y0 _ hS
    have v1 := y1 _ hS
    cases hfc : findC p.l c with
    | none =>
      rw [hfc] at KR2
      simp only [encA, airZ, Option.getD_none, Option.isSome_none, List.length_nil] at KR2
      rw [HCC.out hfc] at KC2
      clear hfc
      go_wp2_with (first
        | (go_at_call 11; refine (KW.out _ (by first | exact hS9 | exact hS8)).mono ?_; rintro e w9 ⟨rfl, hSz⟩)
        | (go_at_call 18; with_reducible refine (KC2.out _ hS8).mono ?_; rintro e w8 ⟨rfl, hS9⟩)
        | (go_at_call 16; with_reducible refine (KR2.out _ hS6).mono ?_; rintro e w7' ⟨rfl, hS7⟩; have hS8 : SW w5 (w7'.alloc (.cells #[.string noB, .string noB, .string noB, .int .i64 0, .slice none 0 0] airT)) := Below.alloc hS7 hS7.size _; have v0 := y0 _ hS8; have v1 := y1 _ hS8)
        | (go_at_call 18; with_reducible refine (KC.out _ hS).mono ?_; rintro e w6 ⟨rfl, hS6⟩; have v0 := y0 _ hS6; have v1 := y1 _ hS6))
      go_ret
      exact ⟨rfl, hb0.trans (Below.mono hSz hb0.size)⟩
    | some b =>
      rw [hfc] at KR2
      simp only [encA, Option.getD_some, Option.isSome_some] at KR2
      clear hfc
      go_wp2_with (first
        | (go_at_call 11; refine (KW.out _ (by first | exact hS9 | exact hS8)).mono ?_; rintro e w9 ⟨rfl, hSz⟩)
        | (go_at_call 18; with_reducible refine (KC2.out _ hS8).mono ?_; rintro e w8 ⟨rfl, hS9⟩)
        | (go_at_call 16; with_reducible refine (KR2.out _ hS6).mono ?_; rintro e w7' ⟨rfl, hS7⟩; have hS8 : SW w5 (w7'.alloc (.cells #[.string b.code, .string b.city, .string b.land, .int .i64 b.off, .slice b.A b.shs.length b.c] airT)) := Below.alloc hS7 hS7.size _; have v0 := y0 _ hS8; have v1 := y1 _ hS8)
        | (go_at_call 18; with_reducible refine (KC.out _ hS).mono ?_; rintro e w6 ⟨rfl, hS6⟩; have v0 := y0 _ hS6; have v1 := y1 _ hS6))
      go_ret
      exact ⟨rfl, hb0.trans (Below.mono hSz hb0.size)⟩
  | some a =>
    rw [hf] at KF KR
    simp only [FindR, encA, Option.getD_some, Option.isSome_some] at KF KR
    obtain ⟨hsa, hl40⟩ := HSH.out a hf
    clear HSH hf
    go_upto_region 5 with (first
      | (go_at_call 10; with_reducible refine (KS.out _ hS).mono ?_; rintro e w' ⟨rfl, hS⟩; have v0 := y0 _ hS; have v1 := y1 _ hS)
      | (go_at_call 16; refine (KR.out _ hS2).mono ?_; rintro e w2 ⟨rfl, hb2⟩)
      | (go_at_call 15; refine (KF.out _ hS).mono ?_; rintro e w1 ⟨hb1, A', c', rfl, hsh1⟩; have hS1 : SW w5 w1 := Below.trans hS (Below.mono hb1 hS.size); have hS2 : SW w5 (w1.alloc (.cells #[.string a.code, .string a.city, .string a.land, .int .i64 a.off, .slice A' a.shs.length c'] airT)) := Below.alloc hS1 hS1.size _; have v0 := y0 _ hS2; have v1 := y1 _ hS2))
    have hS3 : SW w5 w2 := Below.trans hS2 (Below.mono hb2 hS2.size)
    have hS4 : SW w5 (w2.alloc (.cells #[.string a.code, .string a.city, .string a.land, .int .i64 a.off, .slice a.A a.shs.length a.c] airT)) := Below.alloc hS3 hS3.size _
    have hb3 := bel_alloc w2 (.cells #[.string a.code, .string a.city, .string a.land, .int .i64 a.off, .slice a.A a.shs.length a.c] airT)
    have n0 := bel_cell hb3 (bel_cell hb2 ((cells_new w1 #[.string a.code, .string a.city, .string a.land, .int .i64 a.off, .slice A' a.shs.length c'] airT 0).trans (show _ = some _ from rfl)))
    have n1 := bel_cell hb3 (bel_cell hb2 ((cells_new w1 #[.string a.code, .string a.city, .string a.land, .int .i64 a.off, .slice A' a.shs.length c'] airT 1).trans (show _ = some _ from rfl)))
    have n2 := bel_cell hb3 (bel_cell hb2 ((cells_new w1 #[.string a.code, .string a.city, .string a.land, .int .i64 a.off, .slice A' a.shs.length c'] airT 2).trans (show _ = some _ from rfl)))
    have n3 := bel_cell hb3 (bel_cell hb2 ((cells_new w1 #[.string a.code, .string a.city, .string a.land, .int .i64 a.off, .slice A' a.shs.length c'] airT 3).trans (show _ = some _ from rfl)))
    have n4 := bel_cell hb3 (bel_cell hb2 ((cells_new w1 #[.string a.code, .string a.city, .string a.land, .int .i64 a.off, .slice A' a.shs.length c'] airT 4).trans (show _ = some _ from rfl)))
    have m0 := (cells_new w2 #[.string a.code, .string a.city, .string a.land, .int .i64 a.off, .slice a.A a.shs.length a.c] airT 0).trans (show _ = some _ from rfl)
    have m1 := (cells_new w2 #[.string a.code, .string a.city, .string a.land, .int .i64 a.off, .slice a.A a.shs.length a.c] airT 1).trans (show _ = some _ from rfl)
    have m2 := (cells_new w2 #[.string a.code, .string a.city, .string a.land, .int .i64 a.off, .slice a.A a.shs.length a.c] airT 2).trans (show _ = some _ from rfl)
    have m3 := (cells_new w2 #[.string a.code, .string a.city, .string a.land, .int .i64 a.off, .slice a.A a.shs.length a.c] airT 3).trans (show _ = some _ from rfl)
    have m4 := (cells_new w2 #[.string a.code, .string a.city, .string a.land, .int .i64 a.off, .slice a.A a.shs.length a.c] airT 4).trans (show _ = some _ from rfl)
    have hsh4 := ((hsh1.more (bel_alloc w1 (.cells #[.string a.code, .string a.city, .string a.land, .int .i64 a.off, .slice A' a.shs.length c'] airT))).more hb2).more hb3
    have hsa4 := hsa _ hS4
    have yy0 := y0 _ hS4
    have yy1 := y1 _ hS4
    generalize hw7 : w2.alloc (.cells #[.string a.code, .string a.city, .string a.land, .int .i64 a.off, .slice a.A a.shs.length a.c] airT) = w7 at *
    clear hw7 hb3
    have fn0 := SW.cell n0
    have fm0 := SW.cell m0
    have fn1 := SW.cell n1
    have fm1 := SW.cell m1
    have fn2 := SW.cell n2
    have fm2 := SW.cell m2
    have fn3 := SW.cell n3
    have fm3 := SW.cell m3
    have fn4 := SW.cell n4
    have fm4 := SW.cell m4
    have fy0 := SW.cell yy0
    have fy1 := SW.cell yy1
    have KSB : Hid (∀ W, SW w7 W → Calls Tryd.prog 17 #[.agg #[.string a.code, .string a.city, .string a.land, .int .i64 a.off, .slice A' a.shs.length c'], .agg #[.string a.code, .string a.city, .string a.land, .int .i64 a.off, .slice a.A a.shs.length a.c]] W fun e w' => e = .returned (.bool true) ∧ SW w7 w') := Lib.hid (SW.call (w5 := w7) (fun W hW => sameA_any a A' c' W (hsa4.more hW) (hsh4.more hW) hl40))
    have up : ∀ W, SW w7 W → SW w5 W := fun W h => Below.trans hS4 (Below.mono h hS4.size)
    have KCq : Hid (∀ W, SW w7 W → Calls Tryd.prog 18 #[.agg #[.slice p.A p.l.length p.ca, .slice p.D p.ds.length p.cd], .string sA] W fun e w' => e = .returned (.string c) ∧ SW w7 w') := Lib.hid (SW.call (w5 := w7) (fun W h => KCb.out W (up W h)))
    have KRCq : Hid (∀ W, SW w7 W → Calls Tryd.prog 19 #[.agg #[.slice p.A p.l.length p.ca, .slice p.D p.ds.length p.cd], .string sA] W fun e w' => e = .returned (.string c) ∧ SW w7 w') := Lib.hid (SW.call (w5 := w7) (fun W h => KRCb.out W (up W h)))
    have KLq : Hid (∀ W, SW w7 W → Calls Tryd.prog 20 #[.agg #[.slice p.A p.l.length p.ca, .slice p.D p.ds.length p.cd], .string sA] W fun e w' => e = .returned (.string ld) ∧ SW w7 w') := Lib.hid (SW.call (w5 := w7) (fun W h => KLb.out W (up W h)))
    have KRLq : Hid (∀ W, SW w7 W → Calls Tryd.prog 21 #[.agg #[.slice p.A p.l.length p.ca, .slice p.D p.ds.length p.cd], .string sA] W fun e w' => e = .returned (.string ld) ∧ SW w7 w') := Lib.hid (SW.call (w5 := w7) (fun W h => KRLb.out W (up W h)))
    have hNe : Nonempty (Wd (SW w7)) := ⟨⟨_, SW.drew _⟩⟩
    refine quietS (S := SW w7) (by kernel_rfl) (by kernel_rfl) (SW.drew _) ?_
    repeat (first | go_big_quiet_skip | (go_big_quiet_want; go_big_quiet_op; first | go_big_quiet_on | go_big_quiet_call ((first | (go_at_call 17; (with_reducible exact quiet_S (KSB.out _ (Wd.ok _)))) | (go_at_call 18; (with_reducible exact quiet_S (KCq.out _ (Wd.ok _)))) | (go_at_call 19; (with_reducible exact quiet_S (KRCq.out _ (Wd.ok _)))) | (go_at_call 20; (with_reducible exact quiet_S (KLq.out _ (Wd.ok _)))) | (go_at_call 21; (with_reducible exact quiet_S (KRLq.out _ (Wd.ok _))))))))
    refine wpQuiet_nil ?_
    rintro W ⟨⟨_, hW⟩, rfl⟩
    have hS := up _ hW
    have v0 := y0 _ hS
    have v1 := y1 _ hS
    cases hfc : findC p.l c with
    | none =>
      rw [hfc] at KR2
      simp only [encA, airZ, Option.getD_none, Option.isSome_none, List.length_nil] at KR2
      rw [HCC.out hfc] at KC2
      clear hfc
      go_wp2_with (first
        | (go_at_call 11; refine (KW.out _ (by first | exact hS9 | exact hS8)).mono ?_; rintro e w9 ⟨rfl, hSz⟩)
        | (go_at_call 18; with_reducible refine (KC2.out _ hS8).mono ?_; rintro e w8 ⟨rfl, hS9⟩)
        | (go_at_call 16; with_reducible refine (KR2.out _ hS6).mono ?_; rintro e w7' ⟨rfl, hS7⟩; have hS8 : SW w5 (w7'.alloc (.cells #[.string noB, .string noB, .string noB, .int .i64 0, .slice none 0 0] airT)) := Below.alloc hS7 hS7.size _; have v0 := y0 _ hS8; have v1 := y1 _ hS8)
        | (go_at_call 18; with_reducible refine (KC.out _ hS).mono ?_; rintro e w6 ⟨rfl, hS6⟩; have v0 := y0 _ hS6; have v1 := y1 _ hS6))
      go_ret
      exact ⟨rfl, hb0.trans (Below.mono hSz hb0.size)⟩
    | some b =>
      rw [hfc] at KR2
      simp only [encA, Option.getD_some, Option.isSome_some] at KR2
      clear hfc
      go_wp2_with (first
        | (go_at_call 11; refine (KW.out _ (by first | exact hS9 | exact hS8)).mono ?_; rintro e w9 ⟨rfl, hSz⟩)
        | (go_at_call 18; with_reducible refine (KC2.out _ hS8).mono ?_; rintro e w8 ⟨rfl, hS9⟩)
        | (go_at_call 16; with_reducible refine (KR2.out _ hS6).mono ?_; rintro e w7' ⟨rfl, hS7⟩; have hS8 : SW w5 (w7'.alloc (.cells #[.string b.code, .string b.city, .string b.land, .int .i64 b.off, .slice b.A b.shs.length b.c] airT)) := Below.alloc hS7 hS7.size _; have v0 := y0 _ hS8; have v1 := y1 _ hS8)
        | (go_at_call 18; with_reducible refine (KC.out _ hS).mono ?_; rintro e w6 ⟨rfl, hS6⟩; have v0 := y0 _ hS6; have v1 := y1 _ hS6))
      go_ret
      exact ⟨rfl, hb0.trans (Below.mono hSz hb0.size)⟩

end Go.Proofs.YtjokpfeiganigaaDoor
