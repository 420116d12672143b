/- Legs; check; the questions of Sell and Cancel over several legs. -/
import Derived.Test.YtkghpapbifijcaaGreatDoorStkK
import Derived.BigQuiet
namespace Go.Proofs.YtkghpapbifijcaaGreatDoor
open Go.RowKit Go.Shelf Go.Maps Go.MapKept
set_option linter.unusedSimpArgs false
set_option linter.unusedVariables false

abbrev spT : TypeId := 26
/-- all legs, in order -/
structure LegsR (g : Stk) (zs : List Lid) : Prop where
  ord : zs.Pairwise fun x y => ltD x y
  mem : ∀ c, c ∈ zs ↔ (g c).isSome = true
theorem LegsR.unique : ∀ {zs ys : List Lid}, (zs.Pairwise fun x y => ltD x y) → (ys.Pairwise fun x y => ltD x y) → (∀ c, c ∈ zs ↔ c ∈ ys) → zs = ys
  | [], [], _, _, _ => rfl
  | [], y :: ys, _, _, h => by have := (h y).2 (by simp); cases this
  | z :: zs, [], _, _, h => by have := (h z).1 (by simp); cases this
  | z :: zs, y :: ys, h1, h2, h => by
    rw [List.pairwise_cons] at h1 h2
    have e : z = y := by
      have a := (h z).1 (by simp)
      have b := (h y).2 (by simp)
      rcases List.mem_cons.1 a with a | a
      · exact a
      · rcases List.mem_cons.1 b with b | b
        · exact b.symm
        · exact absurd (ltD_trans (h1.1 y b) (h2.1 z a)) (ltD_irrefl _)
    subst e
    rw [LegsR.unique h1.2 h2.2 (fun c => ?_)]
    constructor
    · intro hc
      rcases List.mem_cons.1 ((h c).1 (by simp [hc])) with e | e
      · subst e; exact absurd (h1.1 c hc) (ltD_irrefl _)
      · exact e
    · intro hc
      rcases List.mem_cons.1 ((h c).2 (by simp [hc])) with e | e
      · subst e; exact absurd (h2.1 c hc) (ltD_irrefl _)
      · exact e
theorem LegsR.eq {g : Stk} {zs ys : List Lid} (h : LegsR g zs) (k : LegsR g ys) : zs = ys := LegsR.unique h.ord k.ord (fun c => (h.mem c).trans (k.mem c).symm)
set_option maxRecDepth 100000 in
set_option maxHeartbeats 4000000 in
theorem legs_any (R : Nat → Prop) (o : Own') (B n : Nat) (cs : List Cf) (g : Stk) (w : World) (hS : StkAt w R o B n cs g) (hn : n ≤ 1000) :
    Calls Tryz.prog 39 #[.pointer (some ⟨B, 0, none⟩)] w fun e w' => ∃ v zs, e = .returned v ∧ LidL w' v zs ∧ zs.length ≤ 1000 ∧ LegsR g zs ∧ Below w.heap.size w w' := by
  obtain ⟨mc, ml, nc, c0, c1, _, _, _, ho, hM⟩ := hS.box
  have K0 := Lib.hid (isVoid_no B ml w c1)
  have K1 := Lib.hid (keys_any (some ml) w)
  have hbA := bel_alloc w (.cells #[.map (some ml)] lgmT)
  have K2 : Hid (Calls Tryz.prog 81 #[.func (.func 118) #[] #[.pointer (some ⟨w.heap.size, 0, none⟩)], .func (.func 83) #[] #[]] (w.alloc (.cells #[.map (some ml)] lgmT)) fun e w' => ∃ v zs, e = .returned v ∧ LidL w' v zs ∧ zs.length ≤ 1000 ∧ LegsR g zs ∧ Below w.heap.size w w') := Lib.hid ((sortedF_any _ _ (fun ys => ys.Nodup ∧ (∀ c, c ∈ ys ↔ (g c).isSome = true) ∧ ys.length ≤ n) (fun _ => True) n _ eg_keys hn (fun ys h => Nat.le_trans h.2.2 hn)
    (keys_stops w.heap.size ml n _ g o _ (Nat.le_refl _) ((cells_new w #[.map (some ml)] lgmT 0).trans rfl) (hM.same (Below.but (fun _ => False) hbA) (fun k hk => hk.elim) ho) ho)).mono (by
      rintro e w' ⟨v, ys, zs, rfl, ⟨h1, h2, h3⟩, hz, hb⟩
      have hnd : zs.Nodup := hz.perm.nodup_iff.2 h1
      refine ⟨v, zs, rfl, hz.row, by rw [hz.perm.length_eq]; omega, ⟨?_, fun c => by rw [hz.perm.mem_iff, h2]⟩, hbA.trans (hb.mono hbA.size)⟩
      rw [List.pairwise_iff_getElem]
      intro i j hi hj hij
      have h4 := hz.ord i j _ _ hij (List.getElem?_eq_getElem hi) (List.getElem?_eq_getElem hj)
      rcases ltD_tri zs[i] zs[j] with h | h | h
      · exact h
      · rw [List.nodup_iff_pairwise_ne, List.pairwise_iff_getElem] at hnd
        exact absurd h (hnd i j hi hj hij)
      · exact absurd h h4))
  clear hS hM
  go_enter Tryz.func39, Tryz.ntmps39
  go_wp2_with (first
    | (go_at_call 67; refine K0.out.mono ?_; rintro e w4 ⟨rfl, rfl⟩)
    | (go_at_call 82; refine K1.out.mono ?_; rintro e w5 ⟨rfl, rfl⟩)
    | (go_at_call 81; refine K2.out.mono ?_; rintro e w6 ⟨v, zs, rfl, hz1, hz2, hz3, hb6⟩))
  go_ret
  exact ⟨v, zs, rfl, hz1, hz2, hz3, hb6⟩
set_option maxRecDepth 100000 in
set_option maxHeartbeats 2000000 in
theorem legs_void (p : Option Addr) (w : World) (h : VoidS w p) : Calls Tryz.prog 39 #[.pointer p] w fun e w' => e = .returned (.slice none 0 0) ∧ w = w' := by
  have K0 := Lib.hid (isVoid_yes p w h)
  go_enter Tryz.func39, Tryz.ntmps39
  go_wp2_with (go_at_call 67; refine K0.out.mono ?_; rintro e w4 ⟨rfl, rfl⟩)
  go_ret
  exact ⟨rfl, rfl⟩
theorem box1 (w : World) (v : Value) (t : TypeId) : (w.alloc (.cells #[v] t)).cell? ⟨w.heap.size, 0, none⟩ = some v := (cells_new w #[v] t 0).trans rfl
set_option maxRecDepth 100000 in
set_option maxHeartbeats 4000000 in
theorem lcheck_any (R : Nat → Prop) (o : Own') (B n : Nat) (cs : List Cf) (g : Stk) (A : Option Addr) (c : Nat) (is : List Lid) (m : Int) (w : World) (hS : StkAt w R o B n cs g) (hL : LidL w (.slice A is.length c) is) (hl : is.length ≤ 1000) (hok : ∀ i ∈ is, OkD i) :
    Calls Tryz.prog 60 #[.pointer (some ⟨B, 0, none⟩), .slice A is.length c, .int .i64 m] w fun e w' => e = .returned (.int .i64 (chkE g is m)) ∧ Below w.heap.size w w' := by
  have hbA := bel_alloc w (.cells #[.pointer (some ⟨B, 0, none⟩)] spT)
  have hS1 := hS.more hbA
  have hz := box1 w (.pointer (some ⟨B, 0, none⟩)) spT
  obtain ⟨mc, ml, nc, c0, c1, _, _, _, ho, hM⟩ := hS1.box
  have K0 := Lib.hid (isVoid_no B ml _ c1)
  have K1 := Lib.hid (hasTwice_any A c is _ hl (RowL.more hL hbA))
  have K2 : Hid (∀ W, SW (w.alloc (.cells #[.pointer (some ⟨B, 0, none⟩)] spT)) W → Calls Tryz.prog 61 #[.slice A is.length c, .func (.func 107) #[] #[.pointer (some ⟨w.heap.size, 0, none⟩)]] W fun e w' => e = .returned (.bool (is.any fun i => (g i).isNone)) ∧ SW W w') := Lib.hid (fun W hW => containsD_any _ _ A c is (fun i => (g i).isNone) W eg_check1 hl ((RowL.more hL hbA).more hW) (fun a W' ha hW' => check1_any R o B n w.heap.size cs g a W' ((hS1.more hW).more hW') (hok a ha) (bel_cell hW' (bel_cell hW hz))))
  have HC : Hid (chkE g is m = _) := Lib.hid rfl
  unfold chkE at HC ⊢
  generalize (is.any fun i => (g i).isNone) = t7 at *
  generalize twiP is = t6 at *
  clear hS hS1 hL hM
  by_cases hm : m < 1
  · rw [if_pos (.inl hm)]
    go_enter Tryz.func60, Tryz.ntmps60
    go_upto_region 1 with fail
    generalize w.alloc (.cells #[.pointer (some ⟨B, 0, none⟩)] spT) = w5 at *
    go_wp2_with (go_at_call 67; refine K0.out.mono ?_; rintro e w6 ⟨rfl, rfl⟩)
    go_ret
    exact ⟨rfl, hbA⟩
  by_cases he : is = []
  · rw [if_pos (.inr he)]
    have h0 : ((is.length : Int) == 0) = true := by rw [he]; rfl
    clear he
    go_enter Tryz.func60, Tryz.ntmps60
    go_upto_region 1 with fail
    generalize w.alloc (.cells #[.pointer (some ⟨B, 0, none⟩)] spT) = w5 at *
    go_wp2_with (go_at_call 67; refine K0.out.mono ?_; rintro e w6 ⟨rfl, rfl⟩)
    go_ret
    exact ⟨rfl, hbA⟩
  rw [if_neg (fun h => h.elim hm he)]
  have h0 : ((is.length : Int) == 0) = false := by
    rw [beq_eq_false_iff_ne]
    intro h
    exact he (List.eq_nil_of_length_eq_zero (by omega))
  clear he
  cases t6 with
  | true =>
    rw [if_pos rfl]
    go_enter Tryz.func60, Tryz.ntmps60
    go_upto_region 1 with fail
    generalize w.alloc (.cells #[.pointer (some ⟨B, 0, none⟩)] spT) = w5 at *
    go_wp2_with (first
      | (go_at_call 67; refine K0.out.mono ?_; rintro e w6 ⟨rfl, rfl⟩)
      | (go_at_call 106; refine K1.out.mono ?_; rintro e w7 ⟨rfl, hb7⟩))
    go_ret
    exact ⟨rfl, hbA.trans (hb7.mono hbA.size)⟩
  | false =>
    rw [if_neg (by simp)]
    cases t7 with
    | true =>
      rw [if_pos rfl]
      go_enter Tryz.func60, Tryz.ntmps60
      go_upto_region 1 with fail
      generalize w.alloc (.cells #[.pointer (some ⟨B, 0, none⟩)] spT) = w5 at *
      go_wp2_with (first
        | (go_at_call 67; refine K0.out.mono ?_; rintro e w6 ⟨rfl, rfl⟩)
        | (go_at_call 106; refine K1.out.mono ?_; rintro e w7 ⟨rfl, hb7⟩)
        | (go_at_call 61; refine (K2.out _ hb7).mono ?_; rintro e w8 ⟨rfl, hb8⟩))
      go_ret
      exact ⟨rfl, hbA.trans ((hb7.trans (Below.mono hb8 hb7.size)).mono hbA.size)⟩
    | false =>
      rw [if_neg (by simp)]
      go_enter Tryz.func60, Tryz.ntmps60
      go_upto_region 1 with fail
      generalize w.alloc (.cells #[.pointer (some ⟨B, 0, none⟩)] spT) = w5 at *
      go_wp2_with (first
        | (go_at_call 67; refine K0.out.mono ?_; rintro e w6 ⟨rfl, rfl⟩)
        | (go_at_call 106; refine K1.out.mono ?_; rintro e w7 ⟨rfl, hb7⟩)
        | (go_at_call 61; refine (K2.out _ hb7).mono ?_; rintro e w8 ⟨rfl, hb8⟩))
      go_ret
      exact ⟨rfl, hbA.trans ((hb7.trans (Below.mono hb8 hb7.size)).mono hbA.size)⟩
set_option maxRecDepth 100000 in
set_option maxHeartbeats 2000000 in
theorem lcheck_void (p : Option Addr) (v : Value) (m : Int) (w : World) (h : VoidS w p) : Calls Tryz.prog 60 #[.pointer p, v, .int .i64 m] w fun e w' => e = .returned (.int .i64 1) ∧ Below w.heap.size w w' := by
  have hbA := bel_alloc w (.cells #[.pointer p] spT)
  have hz := box1 w (.pointer p) spT
  have K0 := Lib.hid (isVoid_yes p _ (h.more hbA))
  clear h
  go_enter Tryz.func60, Tryz.ntmps60
  go_upto_region 1 with fail
  generalize w.alloc (.cells #[.pointer p] spT) = w5 at *
  go_wp2_with (go_at_call 67; refine K0.out.mono ?_; rintro e w4 ⟨rfl, rfl⟩)
  go_ret
  exact ⟨rfl, hbA⟩
end Go.Proofs.YtkghpapbifijcaaGreatDoor
