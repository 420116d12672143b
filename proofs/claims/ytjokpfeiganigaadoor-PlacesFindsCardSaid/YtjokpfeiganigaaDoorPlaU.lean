/- Walks of Miles and Way. -/
import Derived.Test.YtjokpfeiganigaaDoorPlaT
namespace Go.Proofs.YtjokpfeiganigaaDoor
open Go.RowKit Go.Shelf
set_option linter.unusedSimpArgs false
set_option linter.unusedVariables false

noncomputable def milesP (l : List Air) (E : List Edg) (a b : ByteArray) : Int × Int :=
  if cityP l a = noB ∨ cityP l b = noB then (0, 14) else match disO E (cityP l a) (cityP l b) with
    | some n => ((n : Int), 0)
    | none => (0, 7)
theorem city_size {l : List Air} (h : ∀ a ∈ l, OkA a) (s : ByteArray) (hs : s.size ≤ maxLen) : (cityP l s).size ≤ maxLen := by
  unfold cityP
  cases hc : findC l s with
  | some a => exact (h a (List.mem_of_find?_eq_some hc)).city
  | none =>
    dsimp only
    split
    · exact hs
    · exact Nat.zero_le _
theorem empty_yes {s : ByteArray} (h : s = noB) : s.toList.isEmpty = true := isEmpty_yes s (by rw [h]; rfl)
theorem empty_no {s : ByteArray} (h : s ≠ noB) : s.toList.isEmpty = false := isEmpty_no s (by
  apply Nat.pos_of_ne_zero
  intro e
  apply h
  cases s with
  | mk d =>
    have : d.size = 0 := e
    rw [Array.size_eq_zero_iff.1 this])

set_option maxRecDepth 100000 in
set_option maxHeartbeats 4000000 in
theorem miles_any (p : PV) (a b : ByteArray) (w : World) (hp : OkP p) (hL : PlL w p) (ha : a.size ≤ maxLen) (hb : b.size ≤ maxLen) :
    Calls Tryd.prog 22 #[encP p, .string a, .string b] w fun e w' => e = .returned (.tuple #[.int .i64 (milesP p.l (edgs p.ds) a b).1, .int .i64 (milesP p.l (edgs p.ds) a b).2]) ∧ Below w.heap.size w w' ∧
      0 ≤ (milesP p.l (edgs p.ds) a b).1 ∧ (milesP p.l (edgs p.ds) a b).1 ≤ 2420000 := by
  have hca := city_size hp.air a ha
  have hcb := city_size hp.air b hb
  obtain ⟨hA, hD, hla, hld⟩ := hp
  obtain ⟨hLa, hLd⟩ := hL
  obtain ⟨A, ca, l, D, cd, ds⟩ := p
  dsimp only at *
  have hb0 := bel_alloc w (.cells #[.slice A l.length ca, .slice D ds.length cd] placesT)
  have p0 := cells_new w #[.slice A l.length ca, .slice D ds.length cd] placesT 0
  have p1 := cells_new w #[.slice A l.length ca, .slice D ds.length cd] placesT 1
  simp only [List.getElem?_toArray, List.getElem?_cons_zero, List.getElem?_cons_succ] at p0 p1
  have hLa5 := hLa.more hb0
  have hLd5 := hLd.more hb0
  go_enter Tryd.func22, Tryd.ntmps22
  go_wp2
  generalize hw5 : w.alloc (.cells #[.slice A l.length ca, .slice D ds.length cd] placesT) = w5 at *
  have f0 := SW.cell p0
  have f1 := SW.cell p1
  have g0 := bel_get p0
  have g1 := bel_get p1
  have KA : Hid (∀ W, SW w5 W → Calls Tryd.prog 18 #[encP ⟨A, ca, l, D, cd, ds⟩, .string a] W fun e w' => e = .returned (.string (cityP l a)) ∧ SW w5 w') := Lib.hid (SW.call (w5 := w5) (fun W h => city_any ⟨A, ca, l, D, cd, ds⟩ a W hla (hLa5.more h)))
  have KB : Hid (∀ W, SW w5 W → Calls Tryd.prog 18 #[encP ⟨A, ca, l, D, cd, ds⟩, .string b] W fun e w' => e = .returned (.string (cityP l b)) ∧ SW w5 w') := Lib.hid (SW.call (w5 := w5) (fun W h => city_any ⟨A, ca, l, D, cd, ds⟩ b W hla (hLa5.more h)))
  have HM : Hid (milesP l (edgs ds) a b = if cityP l a = noB ∨ cityP l b = noB then ((0 : Int), (14 : Int)) else match disO (edgs ds) (cityP l a) (cityP l b) with
    | some n => ((n : Int), (0 : Int))
    | none => ((0 : Int), (7 : Int))) := Lib.hid rfl
  generalize cityP l a = sa at *
  generalize cityP l b = sb at *
  clear hla hLa hLa5 hA hLd hw5 p0 p1
  have hNe : Nonempty (Wd (SW w5)) := ⟨⟨_, SW.drew _⟩⟩
  refine quietS (S := SW w5) (by kernel_rfl) (by kernel_rfl) (SW.drew _) ?_
  repeat (first | go_big_quiet_skip | (go_big_quiet_want; go_big_quiet_op; first | go_big_quiet_on | go_big_quiet_call (((go_at_call 18; first | (with_reducible exact quiet_S (KA.out _ (Wd.ok _))) | (with_reducible exact quiet_S (KB.out _ (Wd.ok _))))))))
  refine wpQuiet_nil ?_
  rintro W ⟨⟨_, hW⟩, rfl⟩
  have q0 := g0 _ hW
  have q1 := g1 _ hW
  by_cases h1 : sa = noB
  · have e1 := empty_yes h1
    have HR : Hid (milesP l (edgs ds) a b = (0, 14)) := Lib.hid (by rw [HM.out, if_pos (.inl h1)])
    clear h1
    go_wp2
    exact bodyPost_ret (results_tmp2 rfl _ _ _) rfl ⟨by rw [HR.out]; rfl, hb0.trans (Below.mono hW hb0.size), by rw [HR.out]; omega, by rw [HR.out]; omega⟩
  have e1 := empty_no h1
  by_cases h2 : sb = noB
  · have e2 := empty_yes h2
    have HR : Hid (milesP l (edgs ds) a b = (0, 14)) := Lib.hid (by rw [HM.out, if_pos (.inr h2)])
    clear h1 h2
    go_wp2
    exact bodyPost_ret (results_tmp2 rfl _ _ _) rfl ⟨by rw [HR.out]; rfl, hb0.trans (Below.mono hW hb0.size), by rw [HR.out]; omega, by rw [HR.out]; omega⟩
  have e2 := empty_no h2
  have CS := Lib.hid (short_any D cd ds sa sb W hld (hLd5.more hW) hD hca)
  rw [if_neg (fun h => h.elim h1 h2)] at HM
  cases hd : disO (edgs ds) sa sb with
  | none =>
    rw [hd] at CS
    have HR : Hid (milesP l (edgs ds) a b = (0, 7)) := Lib.hid (by rw [HM.out, hd])
    clear h1 h2 hd
    unfold shortR at CS
    go_wp2_with (go_at_call 42; refine CS.out.mono ?_; rintro e w7 ⟨rfl, hb7, _⟩)
    exact bodyPost_ret (results_tmp2 rfl _ _ _) rfl ⟨by rw [HR.out]; rfl, hb0.trans ((Below.trans hW (Below.mono hb7 hW.size)).mono hb0.size), by rw [HR.out]; omega, by rw [HR.out]; omega⟩
  | some n =>
    rw [hd] at CS
    have HR : Hid (milesP l (edgs ds) a b = ((n : Int), 0)) := Lib.hid (by rw [HM.out, hd])
    clear h1 h2 hd
    unfold shortR at CS
    go_wp2_with (go_at_call 42; refine CS.out.mono ?_; rintro e w7 ⟨rfl, hb7, hn⟩; have hnn := hn n rfl; clear hn)
    exact bodyPost_ret (results_tmp2 rfl _ _ _) rfl ⟨by rw [HR.out]; rfl, hb0.trans ((Below.trans hW (Below.mono hb7 hW.size)).mono hb0.size), by rw [HR.out]; simp, by rw [HR.out]; simp only; omega⟩

end Go.Proofs.YtjokpfeiganigaaDoor
