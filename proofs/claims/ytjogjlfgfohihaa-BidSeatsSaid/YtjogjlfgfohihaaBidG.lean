/- expected and knows (the chapter's examples). -/
import Derived.Test.YtjogjlfgfohihaaBidF
import Derived.Deep.CutBlock
namespace Go.Proofs.Ytjogjlfgfohihaa
open Go.RowKit Go.Shelf
set_option linter.unusedSimpArgs false
set_option linter.unusedVariables false

noncomputable def expB (L : List Cv) : Bool := L.all (fun x => rgtC x.l) && decide ((L.length : Int) ≤ 36)
theorem expB_yes {L : List Cv} (h : expB L = true) : (∀ x ∈ L, RgtP x.l) ∧ L.length ≤ 36 := by
  simp only [expB, Bool.and_eq_true, List.all_eq_true, decide_eq_true_eq] at h
  exact ⟨fun x hx => (rgtC_iff _).1 (h.1 x hx), by omega⟩
theorem box_cells (w : World) (v0 v1 : Value) (t : TypeId) : (w.alloc (.cells #[v0, v1] t)).cell? ⟨w.heap.size, 0, none⟩ = some v0 ∧ (w.alloc (.cells #[v0, v1] t)).cell? ⟨w.heap.size, 1, none⟩ = some v1 :=
  ⟨(cells_new w #[v0, v1] t 0).trans rfl, (cells_new w #[v0, v1] t 1).trans rfl⟩
set_option maxRecDepth 100000 in
set_option maxHeartbeats 4000000 in
theorem exp_any (A : Option Addr) (c : Nat) (L : List Cv) (u : Value) (w : World) (hL : CvsL w (.slice A L.length c) L) (hl : L.length < 9223372036854775808) (hx : ∀ x ∈ L, x.l.length < 9223372036854775808) :
    Calls Try.prog 18 #[.agg #[.slice A L.length c, u]] w fun e w' => e = .returned (.bool (expB L)) ∧ Below w.heap.size w w' := by
  have hbA := bel_alloc w (.cells #[.slice A L.length c, u] 35)
  obtain ⟨y0, y1⟩ := box_cells w (.slice A L.length c) u 35
  have HBA := Lib.hid hbA
  have HBS := Lib.hid hbA.size
  have HL := Lib.hid (hL.more hbA)
  have HX := Lib.hid hx
  have HY : Hid ((∀ x ∈ L, rgtC x.l = true) → expB L = decide ((L.length : Int) ≤ 36)) := Lib.hid (fun h => by
    unfold expB
    rw [List.all_eq_true.2 (fun x hx => h x hx), Bool.true_and])
  have HN : Hid (∀ x ∈ L, rgtC x.l = false → expB L = false) := Lib.hid (fun x hx h => by
    unfold expB
    rw [Bool.and_eq_false_iff]
    left
    rw [List.all_eq_false]
    exact ⟨x, hx, by simp [h]⟩)
  generalize expB L = r at *
  clear hL hx hbA
  go_enter Try.func18, Try.ntmps18
  go_upto_region 1 with fail
  generalize hbx : w.heap.size = bx at *
  have HBX := Lib.hid hbx
  clear hbx
  generalize w.alloc (.cells #[.slice A L.length c, u] 35) = w1 at *
  have Q0 := Lib.hid (fun W (h : SW w1 W) => bel_get y0 _ h)
  clear y0 y1
  go_wp2
  go_loopw [3] (fun vi wr => ∃ k : Nat, k ≤ L.length ∧ vi = .int .i64 k ∧ Hid (∀ i x, i < k → L[i]? = some x → rgtC x.l = true) ∧ Hid (SW w1 wr)) (fun vi _ => L.length - (intOf vi).toNat)
  case atStart => exact ⟨0, Nat.zero_le _, rfl, Lib.hid (fun i x h => absurd h (Nat.not_lt_zero _)), Lib.hid (Below.refl _ _)⟩
  case round =>
    obtain ⟨k, hk, rfl, HK, HB⟩ := hrel
    have y0 := Q0.out _ HB.out
    by_cases hlt : k < L.length
    · obtain ⟨x, hx⟩ : ∃ x, L[k]? = some x := ⟨_, List.getElem?_eq_getElem hlt⟩
      obtain ⟨b, off, e1, hgl, ha⟩ := row_get (HL.out.more HB.out).1 hx
      cases e1
      have i2 : (k : Int) < (L.length : Int) := by omega
      have z0 := ha 0 _ rfl
      rw [Nat.mul_one, Nat.add_zero] at z0
      have KR := Lib.hid (rright_any x.A x.c x.l wr (HX.out x (List.mem_of_getElem? hx)) ((HL.out.more HB.out).2 x (List.mem_of_getElem? hx)))
      have HXX := Lib.hid hx
      clear ha hgl hx
      cases hr : rgtC x.l with
      | true =>
        rw [hr] at KR
        have HS : Hid (∀ i x, i < k + 1 → L[i]? = some x → rgtC x.l = true) := Lib.hid (fun i z hi h => by
          by_cases e : i = k
          · subst e; rw [HXX.out] at h; cases h; exact hr
          · exact HK.out i z (by omega) h)
        clear hr
        go_wp2_with (go_at_call 15; refine KR.out.mono ?_; rintro e w2 ⟨rfl, hb2⟩)
        go_roundw
        case rel => exact ⟨k + 1, by omega, by go_num, HS, Lib.hid (HB.out.trans (hb2.mono HB.out.size))⟩
        case measure => simp [intOf]; omega
      | false =>
        rw [hr] at KR
        have HR := Lib.hid (HN.out x (List.mem_of_getElem? HXX.out) hr)
        clear hr
        go_wp2_with (go_at_call 15; refine KR.out.mono ?_; rintro e w2 ⟨rfl, hb2⟩)
        go_ret
        exact ⟨ret_bool HR.out.symm, by rw [HBX.out]; exact HBA.out.trans ((HB.out.trans (hb2.mono HB.out.size)).mono HBS.out)⟩
    · have i2 : ¬ (k : Int) < (L.length : Int) := by omega
      have HR := Lib.hid (HY.out (fun x hx => by
        obtain ⟨i, hi⟩ := List.mem_iff_getElem?.1 hx
        exact HK.out i x (by have := (List.getElem?_eq_some_iff.1 hi).1; omega) hi))
      go_wp2
      go_ret
      exact ⟨ret_bool HR.out.symm, by rw [HBX.out]; exact HBA.out.trans (HB.out.mono HBS.out)⟩

/-! ### the examples -/
theorem exCurve : CurveR [⟨100, 1⟩, ⟨300, 2⟩] 4 [300, 300, 100, 0] where
  len := rfl
  pos x hx := by simp at hx; omega
  at' k x v hx hv := by
    rcases k with _ | _ | _ | _ | k <;> simp at hx <;> subst hx <;> simp only [cntS, show (1 : Int).toNat = 1 from rfl, show (2 : Int).toNat = 2 from rfl] <;> (split <;> split <;> omega)
theorem exR1 : rgtC [3, 3, 0] = true := (rgtC_iff _).2 ⟨by simp, fun k x hx => by
  rcases k with _ | _ | _ | k <;> simp at hx <;> subst hx <;> refine ⟨by omega, by omega, fun y hy => ?_⟩ <;> simp at hy <;> omega⟩
theorem exR2 : rgtC [1, 2] = false := rgtC_no (fun h => by have := (h.2 1 2 rfl).2.2 1 rfl; omega)
theorem exX : RgtP [300, 100, 50] := ⟨by simp, fun k x hx => by
  rcases k with _ | _ | _ | k <;> simp at hx <;> subst hx <;> refine ⟨by omega, by omega, fun y hy => ?_⟩ <;> simp at hy <;> omega⟩
theorem exY : RgtP [200, 100] := ⟨by simp, fun k x hx => by
  rcases k with _ | _ | k <;> simp at hx <;> subst hx <;> refine ⟨by omega, by omega, fun y hy => ?_⟩ <;> simp at hy <;> omega⟩
theorem exS : SeatsR [[300, 100, 50], [200, 100]] [3, 2] 250 5 1 := by
  unfold SeatsR
  rw [if_neg (by simp)]
  refine ⟨by decide, fun k hk => ?_, .inr (fun h => ?_)⟩
  · obtain rfl : k = 0 := by omega
    exact ⟨by simp, by decide⟩
  · have h2 := h.2
    revert h2
    decide
theorem exE : curE [⟨100, 1⟩, ⟨300, 2⟩] 4 = 0 := by simp [curE, dmsE, dmE]
set_option maxRecDepth 100000 in
set_option maxHeartbeats 8000000 in
theorem knows_any (w : World) : Calls Try.prog 8 #[] w fun e w' => e = .returned (.bool true) ∧ Below w.heap.size w w' := by
  have h1 := bel_alloc w (.cells #[.int .i64 100, .int .i64 1, .int .i64 300, .int .i64 2] dmT)
  have KC : Hid (Calls Try.prog 9 #[.slice (some ⟨w.heap.size, 0, none⟩) 2 2, .int .i64 4] (w.alloc (.cells #[.int .i64 100, .int .i64 1, .int .i64 300, .int .i64 2] dmT)) fun e w' => ∃ A c, e = .returned (.tuple #[.slice A 4 c, .int .i64 0]) ∧ IntR w' (.slice A 4 c) [300, 300, 100, 0] ∧ Below w.heap.size w w') := Lib.hid ((curve_any (some ⟨w.heap.size, 0, none⟩) 2 [⟨100, 1⟩, ⟨300, 2⟩] 4 _ (by simp) (RowL.new w ([⟨100, 1⟩, ⟨300, 2⟩] : List Dm) dmT (enc := encD) (fun _ => rfl) (cs := #[.int .i64 100, .int .i64 1, .int .i64 300, .int .i64 2]) rfl 2)).mono (by
    rintro e w' ⟨A, c, a, rfl, hR, _, hc, _, hb⟩
    have h2 := CurveR.uniq (hc exE) exCurve
    subst h2
    rw [exE]
    exact ⟨A, c, rfl, hR, h1.trans (hb.mono h1.size)⟩))
  clear h1
  go_enter Try.func8, Try.ntmps8
  go_upto_region 2 with (go_at_call 9; refine KC.out.mono ?_; rintro e w1 ⟨A1, c1, rfl, hR1, hb1⟩)
  have hb2 := bel_alloc w1 (.cells #[.int .i64 300, .int .i64 100, .int .i64 50] 3)
  have hb3 := bel_alloc (w1.alloc (.cells #[.int .i64 300, .int .i64 100, .int .i64 50] 3)) (.cells #[.int .i64 200, .int .i64 100] 3)
  have hX := (RowL.new w1 [300, 100, 50] 3 (enc := encI) (fun _ => rfl) (cs := #[.int .i64 300, .int .i64 100, .int .i64 50]) rfl 3).more hb3
  have hY := RowL.new (w1.alloc (.cells #[.int .i64 300, .int .i64 100, .int .i64 50] 3)) [200, 100] 3 (enc := encI) (fun _ => rfl) (cs := #[.int .i64 200, .int .i64 100]) rfl 2
  rw [World.size_alloc] at hY
  have hR := (hR1.more hb2).more hb3
  have hb := hb1.trans ((hb2.trans (hb3.mono hb2.size)).mono hb1.size)
  clear hb2 hb3 hR1 hb1 KC
  go_upto_region 3 with fail
  have HX := Lib.hid hX
  have HY := Lib.hid hY
  have HR := Lib.hid hR
  have HB := Lib.hid hb
  clear hX hY hR hb
  generalize w1.heap.size = bx at *
  generalize (w1.alloc (.cells #[.int .i64 300, .int .i64 100, .int .i64 50] 3)).alloc (.cells #[.int .i64 200, .int .i64 100] 3) = w5 at *
  have KS : Hid (∀ W, SW w5 W → Calls Try.prog 11 #[.slice A1 4 c1, .slice (some ⟨W.heap.size, 0, none⟩) 4 4] (W.alloc (.cells #[.int .i64 300, .int .i64 300, .int .i64 100, .int .i64 0] 3)) fun e w' => e = .returned (.bool true) ∧ SW w5 w') := Lib.hid (fun W h => by
    have hb := bel_alloc W (.cells #[.int .i64 300, .int .i64 300, .int .i64 100, .int .i64 0] 3)
    have h' : SW w5 (W.alloc (.cells #[.int .i64 300, .int .i64 300, .int .i64 100, .int .i64 0] 3)) := Below.trans h (hb.mono h.size)
    refine (same_any A1 c1 [300, 300, 100, 0] (some ⟨W.heap.size, 0, none⟩) 4 [300, 300, 100, 0] _ (by simp) (by simp) (HR.out.more h') (RowL.new W [300, 300, 100, 0] 3 (enc := encI) (fun _ => rfl) (cs := #[.int .i64 300, .int .i64 300, .int .i64 100, .int .i64 0]) rfl 4)).mono ?_
    rintro e w' ⟨rfl, hb'⟩
    exact ⟨by simp, Below.trans h' (hb'.mono h'.size)⟩)
  have KR1 : Hid (∀ W, SW w5 W → Calls Try.prog 12 #[.slice (some ⟨W.heap.size, 0, none⟩) 3 3] (W.alloc (.cells #[.int .i64 3, .int .i64 3, .int .i64 0] 3)) fun e w' => e = .returned (.bool true) ∧ SW w5 w') := Lib.hid (fun W h => by
    have hb := bel_alloc W (.cells #[.int .i64 3, .int .i64 3, .int .i64 0] 3)
    have h' : SW w5 (W.alloc (.cells #[.int .i64 3, .int .i64 3, .int .i64 0] 3)) := Below.trans h (hb.mono h.size)
    refine (right_any (some ⟨W.heap.size, 0, none⟩) 3 [3, 3, 0] _ (by simp) (RowL.new W [3, 3, 0] 3 (enc := encI) (fun _ => rfl) (cs := #[.int .i64 3, .int .i64 3, .int .i64 0]) rfl 3)).mono ?_
    rintro e w' ⟨rfl, hb'⟩
    exact ⟨by rw [exR1], Below.trans h' (hb'.mono h'.size)⟩)
  have KR2 : Hid (∀ W, SW w5 W → Calls Try.prog 12 #[.slice (some ⟨W.heap.size, 0, none⟩) 2 2] (W.alloc (.cells #[.int .i64 1, .int .i64 2] 3)) fun e w' => e = .returned (.bool false) ∧ SW w5 w') := Lib.hid (fun W h => by
    have hb := bel_alloc W (.cells #[.int .i64 1, .int .i64 2] 3)
    have h' : SW w5 (W.alloc (.cells #[.int .i64 1, .int .i64 2] 3)) := Below.trans h (hb.mono h.size)
    refine (right_any (some ⟨W.heap.size, 0, none⟩) 2 [1, 2] _ (by simp) (RowL.new W [1, 2] 3 (enc := encI) (fun _ => rfl) (cs := #[.int .i64 1, .int .i64 2]) rfl 2)).mono ?_
    rintro e w' ⟨rfl, hb'⟩
    exact ⟨by rw [exR2], Below.trans h' (hb'.mono h'.size)⟩)
  have KP : Hid (∀ (n : Int) (W : World), SW w5 W → Calls Try.prog 13 #[.slice (some ⟨bx + 1, 0, none⟩) 2 2, .int .i64 n] W fun e w' => e = .returned (.int .i64 (prF [200, 100] n)) ∧ w' = W) := Lib.hid (fun n W h => price_any _ 2 [200, 100] n W (by simp) (HY.out.more h))
  have KP1 : Hid (∀ W : World, SW w5 W → Calls Try.prog 13 #[.slice (some ⟨bx + 1, 0, none⟩) 2 2, .int .i64 1] W fun e w' => e = .returned (.int .i64 200) ∧ w' = W) := Lib.hid (fun W h => KP.out 1 W h)
  have KP3 : Hid (∀ W : World, SW w5 W → Calls Try.prog 13 #[.slice (some ⟨bx + 1, 0, none⟩) 2 2, .int .i64 3] W fun e w' => e = .returned (.int .i64 0) ∧ w' = W) := Lib.hid (fun W h => KP.out 3 W h)
  have KP0 : Hid (∀ W : World, SW w5 W → Calls Try.prog 13 #[.slice (some ⟨bx + 1, 0, none⟩) 2 2, .int .i64 0] W fun e w' => e = .returned (.int .i64 (-1)) ∧ w' = W) := Lib.hid (fun W h => KP.out 0 W h)
  have KW : Hid (∀ W : World, SW w5 W → Calls Try.prog 16 #[.slice (some ⟨bx + 1, 0, none⟩) 2 2, .int .i64 5] W fun e w' => e = .returned (.int .i64 300) ∧ SW w5 w') := Lib.hid (fun W h => (worth_any _ 2 [200, 100] 5 W (by simp) exY (HY.out.more h)).mono (by
    rintro e w' ⟨rfl, hb'⟩
    exact ⟨rfl, Below.trans h (hb'.mono h.size)⟩))
  have KT : Hid (∀ W, SW w5 W → Calls Try.prog 19 #[.slice (some ⟨W.heap.size, 0, none⟩) 2 2, .slice (some ⟨W.heap.size + 1, 0, none⟩) 2 2, .int .i64 250, .int .i64 5] ((W.alloc (.cells #[.slice (some ⟨bx, 0, none⟩) 3 3, .slice (some ⟨bx + 1, 0, none⟩) 2 2] 24)).alloc (.cells #[.int .i64 3, .int .i64 2] 3)) fun e w' => e = .returned (.int .i64 1) ∧ SW w5 w') := Lib.hid (fun W h => by
    have hb := bel_alloc W (.cells #[.slice (some ⟨bx, 0, none⟩) 3 3, .slice (some ⟨bx + 1, 0, none⟩) 2 2] 24)
    have hbb := bel_alloc (W.alloc (.cells #[.slice (some ⟨bx, 0, none⟩) 3 3, .slice (some ⟨bx + 1, 0, none⟩) 2 2] 24)) (.cells #[.int .i64 3, .int .i64 2] 3)
    have h' : SW w5 (W.alloc (.cells #[.slice (some ⟨bx, 0, none⟩) 3 3, .slice (some ⟨bx + 1, 0, none⟩) 2 2] 24)) := Below.trans h (hb.mono h.size)
    have h'' : SW w5 ((W.alloc (.cells #[.slice (some ⟨bx, 0, none⟩) 3 3, .slice (some ⟨bx + 1, 0, none⟩) 2 2] 24)).alloc (.cells #[.int .i64 3, .int .i64 2] 3)) := Below.trans h' (hbb.mono h'.size)
    have hl := RowL.new (W.alloc (.cells #[.slice (some ⟨bx, 0, none⟩) 3 3, .slice (some ⟨bx + 1, 0, none⟩) 2 2] 24)) [3, 2] 3 (enc := encI) (fun _ => rfl) (cs := #[.int .i64 3, .int .i64 2]) rfl 2
    rw [World.size_alloc] at hl
    have hc : CvsL ((W.alloc (.cells #[.slice (some ⟨bx, 0, none⟩) 3 3, .slice (some ⟨bx + 1, 0, none⟩) 2 2] 24)).alloc (.cells #[.int .i64 3, .int .i64 2] 3)) (.slice (some ⟨W.heap.size, 0, none⟩) 2 2) [⟨some ⟨bx, 0, none⟩, 3, [300, 100, 50]⟩, ⟨some ⟨bx + 1, 0, none⟩, 2, [200, 100]⟩] :=
      ⟨(RowL.new W [⟨some ⟨bx, 0, none⟩, 3, [300, 100, 50]⟩, ⟨some ⟨bx + 1, 0, none⟩, 2, [200, 100]⟩] 24 (enc := encV) (fun _ => rfl) (cs := #[.slice (some ⟨bx, 0, none⟩) 3 3, .slice (some ⟨bx + 1, 0, none⟩) 2 2]) rfl 2).more hbb, fun x hx => by
        simp only [List.mem_cons, List.not_mem_nil, or_false] at hx
        rcases hx with rfl | rfl
        · exact HX.out.more h''
        · exact HY.out.more h''⟩
    have hok : OkCs [⟨some ⟨bx, 0, none⟩, 3, [300, 100, 50]⟩, ⟨some ⟨bx + 1, 0, none⟩, 2, [200, 100]⟩] [3, 2] := ⟨fun x hx => by
        simp only [List.mem_cons, List.not_mem_nil, or_false] at hx
        rcases hx with rfl | rfl
        · exact exX
        · exact exY, by simp, fun x hx => by simp at hx; omega⟩
    refine (seats_any (some ⟨W.heap.size, 0, none⟩) 2 _ (some ⟨W.heap.size + 1, 0, none⟩) 2 [3, 2] 250 5 _ hc hl hok (by simp)).mono ?_
    rintro e w' ⟨r, rfl, hr, hb'⟩
    have e1 : r = 1 := SeatsR.uniq (show SeatsR [[300, 100, 50], [200, 100]] [3, 2] 250 5 r from hr) exS
    subst e1
    exact ⟨rfl, Below.trans h'' (hb'.mono h''.size)⟩)
  clear HX HY HR KP
  go_wp2_with (first
    | (go_at_call 11; with_reducible refine (KS.out _ (Below.refl _ _)).mono ?_; rintro e w6 ⟨rfl, hS6⟩)
    | (go_at_call 12; with_reducible refine (KR1.out _ hS6).mono ?_; rintro e w7 ⟨rfl, hS7⟩)
    | (go_at_call 12; with_reducible refine (KR2.out _ hS7).mono ?_; rintro e w8 ⟨rfl, hS8⟩)
    | (go_at_call 13; with_reducible refine (KP1.out _ hS8).mono ?_; rintro e w9 ⟨rfl, rfl⟩)
    | (go_at_call 13; with_reducible refine (KP3.out _ hS8).mono ?_; rintro e w9 ⟨rfl, rfl⟩)
    | (go_at_call 13; with_reducible refine (KP0.out _ hS8).mono ?_; rintro e w9 ⟨rfl, rfl⟩)
    | (go_at_call 16; with_reducible refine (KW.out _ hS8).mono ?_; rintro e w10 ⟨rfl, hS10⟩)
    | (go_at_call 19; with_reducible refine (KT.out _ hS10).mono ?_; rintro e w11 ⟨rfl, hS11⟩))
  go_ret
  exact ⟨rfl, HB.out.trans (Below.mono hS11 HB.out.size)⟩
end Go.Proofs.Ytjogjlfgfohihaa
