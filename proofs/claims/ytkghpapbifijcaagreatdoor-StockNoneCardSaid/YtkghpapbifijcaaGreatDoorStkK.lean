/- hasTwice; Legs; check. -/
import Derived.Test.YtkghpapbifijcaaGreatDoorStkJ
import Derived.Test.YtkghpapbifijcaaGreatDoorStkG
import Derived.BigQuiet
namespace Go.Proofs.YtkghpapbifijcaaGreatDoor
open Go.RowKit Go.Shelf Go.Maps Go.MapKept
set_option linter.unusedSimpArgs false
set_option linter.unusedVariables false

set_option maxRecDepth 100000 in
set_option maxHeartbeats 2000000 in
theorem run_eqD (x y : Lid) (w : World) : (binOp .eql lidT (aggD x) (aggD y)).run Tryz.prog w = .ok (.bool (eqD x y)) w := by
  have e : eqD x y = ((x.car.toList == y.car.toList) && (x.num == y.num) && (x.day == y.day) && (x.frm.toList == y.frm.toList)) := rfl
  rw [e]
  cases h1 : (x.car.toList == y.car.toList) <;> cases h2 : (x.num == y.num) <;> cases h3 : (x.day == y.day) <;> cases h4 : (x.frm.toList == y.frm.toList) <;> go_simp
/-! ### equal identifiers are neighbours in a sorted list -/
theorem twi_iff : ∀ l : List Lid, twiP l = true ↔ ¬ l.Nodup
  | [] => by simp [twiP]
  | i :: r => by
    rw [twiP, List.nodup_cons, Bool.or_eq_true, twi_iff r, List.any_eq_true]
    have : (∃ x, x ∈ r ∧ eqD i x = true) ↔ i ∈ r := ⟨fun ⟨x, hx, e⟩ => by rw [(eqD_iff _ _).1 e]; exact hx, fun h => ⟨i, h, (eqD_iff _ _).2 rfl⟩⟩
    rw [this]
    constructor
    · rintro (h | h) ⟨h1, h2⟩
      · exact h1 h
      · exact h h2
    · intro h
      by_cases e : i ∈ r
      · exact .inl e
      · exact .inr (fun h2 => h ⟨e, h2⟩)
theorem srt_lt {zs : List Lid} (ho : ∀ (i j : Nat) (x y : Lid), i < j → zs[i]? = some x → zs[j]? = some y → ¬ ltD y x) (hn : ∀ (j : Nat) (x y : Lid), zs[j]? = some x → zs[j + 1]? = some y → eqD y x = false) : ∀ (d i : Nat) (x y : Lid), zs[i]? = some x → zs[i + 1 + d]? = some y → ltD x y
  | 0, i, x, y, hx, hy => by
    rcases ltD_tri x y with h | rfl | h
    · exact h
    · have := hn i x x hx hy
      rw [(eqD_iff _ _).2 rfl] at this
      cases this
    · exact absurd h (ho i (i + 1) x y (by omega) hx hy)
  | d + 1, i, x, y, hx, hy => by
    have hl := (List.getElem?_eq_some_iff.1 hy).1
    obtain ⟨z, hz⟩ : ∃ z, zs[i + 1 + d]? = some z := ⟨_, List.getElem?_eq_getElem (by omega)⟩
    have h1 := srt_lt ho hn d i x z hx hz
    have h2 := srt_lt ho hn 0 (i + 1 + d) z y hz (by rw [show i + 1 + d + 1 + 0 = i + 1 + (d + 1) by omega]; exact hy)
    exact ltD_trans h1 h2
theorem srt_nodup {zs : List Lid} (ho : ∀ (i j : Nat) (x y : Lid), i < j → zs[i]? = some x → zs[j]? = some y → ¬ ltD y x) (hn : ∀ (j : Nat) (x y : Lid), zs[j]? = some x → zs[j + 1]? = some y → eqD y x = false) : zs.Nodup := by
  rw [List.nodup_iff_pairwise_ne, List.pairwise_iff_getElem]
  intro i j hi hj hij e
  have h := srt_lt ho hn (j - i - 1) i zs[i] zs[j] (List.getElem?_eq_getElem hi) (by rw [show i + 1 + (j - i - 1) = j by omega]; exact List.getElem?_eq_getElem hj)
  rw [e] at h
  exact ltD_irrefl _ h
theorem adj_dup {zs : List Lid} {j : Nat} {x y : Lid} (hx : zs[j]? = some x) (hy : zs[j + 1]? = some y) (he : eqD y x = true) : ¬ zs.Nodup := by
  intro h
  rw [List.nodup_iff_pairwise_ne, List.pairwise_iff_getElem] at h
  obtain ⟨h1, rfl⟩ := List.getElem?_eq_some_iff.1 hx
  obtain ⟨h2, rfl⟩ := List.getElem?_eq_some_iff.1 hy
  exact h j (j + 1) h1 h2 (by omega) ((eqD_iff _ _).1 he).symm
theorem twi_sort {ys zs : List Lid} (hp : zs.Perm ys) : (¬ zs.Nodup → twiP ys = true) ∧ (zs.Nodup → twiP ys = false) :=
  ⟨fun h => (twi_iff ys).2 (fun k => h (hp.nodup_iff.2 k)), fun h => by
    cases e : twiP ys with
    | false => rfl
    | true => exact absurd (hp.nodup_iff.1 h) ((twi_iff ys).1 e)⟩
set_option maxHeartbeats 1000000 in
theorem values_any (A : Option Addr) (n c : Nat) (w : World) : Calls Tryz.prog 133 #[.slice A n c] w fun e w' => e = .returned (.func (.func 147) #[] #[.pointer (some ⟨w.heap.size, 0, none⟩)]) ∧ w' = w.alloc (.cells #[.slice A n c] lisT) := by
  go_enter Tryz.func133, Tryz.ntmps133
  go_wp2
  go_ret
  exact ⟨rfl, rfl⟩
set_option maxHeartbeats 1000000 in
theorem keys_any (m : Option Nat) (w : World) : Calls Tryz.prog 82 #[.map m] w fun e w' => e = .returned (.func (.func 118) #[] #[.pointer (some ⟨w.heap.size, 0, none⟩)]) ∧ w' = w.alloc (.cells #[.map m] lgmT) := by
  go_enter Tryz.func82, Tryz.ntmps82
  go_wp2
  go_ret
  exact ⟨rfl, rfl⟩
theorem eg_vals : ∀ args w, (callFunc 147 args).run Tryz.prog w = .ok (.enter 147 args) w := enters_of Tryz.func147 (by kernel_rfl) rfl
theorem eg_keys : ∀ args w, (callFunc 118 args).run Tryz.prog w = .ok (.enter 118 args) w := enters_of Tryz.func118 (by kernel_rfl) rfl
set_option maxRecDepth 100000 in
set_option maxHeartbeats 4000000 in
theorem hasTwice_any (A : Option Addr) (c : Nat) (is : List Lid) (w : World) (hl : is.length ≤ 1000) (hL : LidL w (.slice A is.length c) is) :
    Calls Tryz.prog 106 #[.slice A is.length c] w fun e w' => e = .returned (.bool (twiP is)) ∧ Below w.heap.size w w' := by
  have K1 := Lib.hid (values_any A is.length c w)
  have hbA := bel_alloc w (.cells #[.slice A is.length c] lisT)
  have K2 : Hid (Calls Tryz.prog 81 #[.func (.func 147) #[] #[.pointer (some ⟨w.heap.size, 0, none⟩)], .func (.func 83) #[] #[]] (w.alloc (.cells #[.slice A is.length c] lisT)) fun e w' => ∃ v zs, e = .returned v ∧ (∃ W, SrtD W is w' v zs) ∧ Below w.heap.size w w') := Lib.hid ((sortedF_any _ _ (fun ys => ys = is) (fun _ => True) is.length _ eg_vals hl (fun ys h => by rw [h]; exact hl)
    (vals_stops w.heap.size _ A c is hl _ (Nat.le_refl _) ((cells_new w #[.slice A is.length c] lisT 0).trans rfl) (inD_of (RowL.more hL hbA)))).mono (by
      rintro e w' ⟨v, ys, zs, rfl, rfl, hz, hb⟩
      exact ⟨v, zs, rfl, ⟨_, hz⟩, hbA.trans (hb.mono hbA.size)⟩))
  have HTW : Hid (∀ zs : List Lid, zs.Perm is → (¬ zs.Nodup → twiP is = true) ∧ (zs.Nodup → twiP is = false)) := Lib.hid (fun zs h => twi_sort h)
  generalize twiP is = T at *
  clear hL
  go_enter Tryz.func106, Tryz.ntmps106
  go_upto_region 2 with (first
    | (go_at_call 133; refine K1.out.mono ?_; rintro e w5 ⟨rfl, rfl⟩)
    | (go_at_call 81; refine K2.out.mono ?_; rintro e w6 ⟨v, zs, rfl, ⟨W6, hz⟩, hb6⟩))
  obtain ⟨A2, c2, rfl, _⟩ := id hz.row
  have HZR := Lib.hid hz.row
  have HZO := Lib.hid hz.ord
  have HTT := Lib.hid (HTW.out zs hz.perm)
  have hzl : zs.length ≤ 1000 := by rw [hz.perm.length_eq]; exact hl
  clear hz
  go_wp2
  go_loopw [4] (fun vi wr => ∃ k : Nat, k ≤ zs.length ∧ vi = .int .i64 ((k : Int) + 1) ∧ Hid (∀ (j : Nat) (x y : Lid), j < k → zs[j]? = some x → zs[j + 1]? = some y → eqD y x = false) ∧ SW w6 wr) (fun vi _ => zs.length + 1 - (intOf vi).toNat)
  case atStart => exact ⟨0, Nat.zero_le _, rfl, Lib.hid (fun j x y hj => absurd hj (Nat.not_lt_zero _)), Below.refl _ _⟩
  case round =>
    obtain ⟨k, hk, rfl, HK, hSr⟩ := hrel
    by_cases hlt : k + 1 < zs.length
    · obtain ⟨x, hx⟩ : ∃ x, zs[k]? = some x := ⟨_, List.getElem?_eq_getElem (by omega)⟩
      obtain ⟨y, hy⟩ : ∃ y, zs[k + 1]? = some y := ⟨_, List.getElem?_eq_getElem hlt⟩
      obtain ⟨b, o, e1, _, hc0⟩ := row_get HZR.out hx
      obtain ⟨b', o', e2, _, hc1⟩ := row_get HZR.out hy
      rw [e1] at e2
      cases e2
      have x0 := SW.cell (bel_cell hSr (hc0 0 _ rfl))
      have x1 := SW.cell (bel_cell hSr (hc0 1 _ rfl))
      have x2 := SW.cell (bel_cell hSr (hc0 2 _ rfl))
      have x3 := SW.cell (bel_cell hSr (hc0 3 _ rfl))
      have y0 := SW.cell (bel_cell hSr (hc1 0 _ rfl))
      have y1 := SW.cell (bel_cell hSr (hc1 1 _ rfl))
      have y2 := SW.cell (bel_cell hSr (hc1 2 _ rfl))
      have y3 := SW.cell (bel_cell hSr (hc1 3 _ rfl))
      rw [Nat.add_zero] at x0 y0
      rw [e1]
      have i1 : (k : Int) + 1 < (zs.length : Int) := by omega
      have i2 : (0 : Int) ≤ (k : Int) + 1 := by omega
      have i3 : (0 : Int) ≤ (k : Int) := by omega
      have i4 : (k : Int) < (zs.length : Int) := by omega
      have i5 : (k : Int) + 1 - 1 = (k : Int) := by omega
      have i6 : ((k : Int) + 1).toNat = k + 1 := by omega
      have heq := fun W => run_eqD y x W
      cases hq : eqD y x with
      | true =>
        have HT := Lib.hid (HTT.out.1 (adj_dup hx hy hq))
        rw [hq] at heq
        clear hx hy hc0 hc1 hq
        go_wp2
        have hNe : Nonempty (Wd (SW wr)) := ⟨⟨_, SW.drew _⟩⟩
        refine quietS (S := SW wr) (by kernel_rfl) (by kernel_rfl) (SW.drew _) ?_
        repeat (first | go_big_quiet_skip | (go_big_quiet_want; go_big_quiet_op; first | go_big_quiet_on | go_big_quiet_call ((fail))))
        refine wpQuiet_nil ?_
        rintro W ⟨⟨_, hW⟩, rfl⟩
        go_wp2
        go_ret
        exact ⟨by rw [HT.out]; rfl, hb6.trans (Below.mono (Below.trans hSr (Below.mono hW hSr.size)) hb6.size)⟩
      | false =>
        have HX := Lib.hid hx
        have HY := Lib.hid hy
        have HQ := Lib.hid hq
        rw [hq] at heq
        clear hx hy hc0 hc1 hq
        go_wp2
        have hNe : Nonempty (Wd (SW wr)) := ⟨⟨_, SW.drew _⟩⟩
        refine quietS (S := SW wr) (by kernel_rfl) (by kernel_rfl) (SW.drew _) ?_
        repeat (first | go_big_quiet_skip | (go_big_quiet_want; go_big_quiet_op; first | go_big_quiet_on | go_big_quiet_call ((fail))))
        refine wpQuiet_nil ?_
        rintro W ⟨⟨_, hW⟩, rfl⟩
        go_wp2
        go_roundw
        case rel =>
          refine ⟨k + 1, by omega, by go_num, Lib.hid (fun j x' y' hj hx' hy' => ?_), Below.trans hSr (Below.mono hW hSr.size)⟩
          by_cases hjk : j = k
          · subst hjk
            rw [HX.out] at hx'
            rw [HY.out] at hy'
            cases hx'
            cases hy'
            exact HQ.out
          · exact HK.out j x' y' (by omega) hx' hy'
        case measure => simp [intOf]; omega
    · have HT := Lib.hid (HTT.out.2 (srt_nodup HZO.out (fun j x y hx hy => HK.out j x y (by have := (List.getElem?_eq_some_iff.1 hy).1; omega) hx hy)))
      have i1 : ¬ (k : Int) + 1 < (zs.length : Int) := by omega
      go_wp2
      go_ret
      exact ⟨by rw [HT.out]; rfl, hb6.trans (Below.mono hSr hb6.size)⟩
end Go.Proofs.YtkghpapbifijcaaGreatDoor
