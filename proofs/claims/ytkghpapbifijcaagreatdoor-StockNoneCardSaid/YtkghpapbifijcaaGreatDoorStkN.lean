/- Sell, Cancel, Close. -/
import Derived.Test.YtkghpapbifijcaaGreatDoorStkM
namespace Go.Proofs.YtkghpapbifijcaaGreatDoor
open Go.RowKit Go.Shelf Go.Maps Go.MapKept
set_option linter.unusedSimpArgs false
set_option linter.unusedVariables false

theorem any_eq {α : Type} {p q : α → Bool} {l : List α} (h : ∀ x ∈ l, p x = q x) : l.any p = l.any q := by
  induction l with
  | nil => rfl
  | cons y r ih => rw [List.any_cons, List.any_cons, h y (by simp), ih (fun x hx => h x (by simp [hx]))]
theorem chk_zero {g : Stk} {is : List Lid} {m : Int} (h : chkE g is m = 0) : 1 ≤ m ∧ is ≠ [] ∧ is.Nodup ∧ ∀ i ∈ is, ∃ q, g i = some q := by
  unfold chkE at h
  split at h
  · cases h
  rename_i h1
  split at h
  · cases h
  rename_i h2
  split at h
  · cases h
  rename_i h3
  refine ⟨by omega, fun e => h1 (.inr e), ?_, fun i hi => ?_⟩
  · by_cases hn : is.Nodup
    · exact hn
    · exact absurd ((twi_iff is).2 hn) h2
  · cases e : g i with
    | some q => exact ⟨q, rfl⟩
    | none => exact absurd (List.any_eq_true.2 ⟨i, hi, by rw [e]; rfl⟩) h3
theorem any_no {α : Type} {p : α → Bool} {l : List α} (h : l.any p = false) : ∀ x ∈ l, p x = false := fun x hx => by
  cases e : p x with
  | false => rfl
  | true => rw [List.any_eq_true.2 ⟨x, hx, e⟩] at h; cases h
def soldG (g : Stk) (i : Lid) (c : ByteArray) : Int := match g i with
  | some q => q.sold c
  | none => 0
theorem OkL.sold0 {K : Int} {q : Lg} (h : OkL K q) {c : ByteArray} (hc : q.has c = true) : 0 ≤ q.sold c := by
  obtain ⟨b, s, x, hP⟩ := h.plc hc
  rw [hP.sold]
  exact h.low s (List.mem_of_getElem? hP.hs) x (List.mem_of_getElem? hP.hx)
set_option maxRecDepth 100000 in
set_option maxHeartbeats 8000000 in
theorem lsell_any (R : Nat → Prop) (o : Own') (B n : Nat) (cs : List Cf) (g : Stk) (K : Int) (A : Option Addr) (cc : Nat) (is : List Lid) (c : ByteArray) (m : Int) (w : World) (hS : StkAt w R o B n cs g) (hG : OkG K cs g) (hK : 0 ≤ K ∧ K ≤ 1000000000000) (hm : -1000000 ≤ m ∧ m ≤ 1000000) (hl : is.length ≤ 1000) (hok : ∀ i ∈ is, OkD i)
    (hL : ∀ W, But w W (MutB o) → LidL W (.slice A is.length cc) is) :
    Calls Tryz.prog 23 #[.pointer (some ⟨B, 0, none⟩), .slice A is.length cc, .string c, .int .i64 m] w fun e w' => e = .returned (.int .i64 (selP g is c m)) ∧ StkAt w' R o B n cs (selG g is c m) ∧ But w w' (MutB o) := by
  have hb1 := bel_alloc w (.cells #[.pointer (some ⟨B, 0, none⟩)] spT)
  have hb2 := bel_alloc (w.alloc (.cells #[.pointer (some ⟨B, 0, none⟩)] spT)) (.cells #[.string c] 9)
  have hb3 := bel_alloc ((w.alloc (.cells #[.pointer (some ⟨B, 0, none⟩)] spT)).alloc (.cells #[.string c] 9)) (.cells #[.int .i64 m] 3)
  have z0 := bel_cell hb3 (bel_cell hb2 (box1 w (.pointer (some ⟨B, 0, none⟩)) spT))
  have z1 := bel_cell hb3 (box1 (w.alloc (.cells #[.pointer (some ⟨B, 0, none⟩)] spT)) (.string c) 9)
  have z2 := box1 ((w.alloc (.cells #[.pointer (some ⟨B, 0, none⟩)] spT)).alloc (.cells #[.string c] 9)) (.int .i64 m) 3
  simp only [World.size_alloc] at z1 z2
  have hbA := (hb1.trans (hb2.mono hb1.size)).trans (hb3.mono (hb1.trans (hb2.mono hb1.size)).size)
  have HBA := Lib.hid hbA
  have hS1 := hS.more hbA
  have hL1 : ∀ W, SW (((w.alloc (.cells #[.pointer (some ⟨B, 0, none⟩)] spT)).alloc (.cells #[.string c] 9)).alloc (.cells #[.int .i64 m] 3)) W → LidL W (.slice A is.length cc) is := fun W h => hL W (But.of_below (hbA.trans (Below.mono h hbA.size)))
  have KC := Lib.hid (lcheck_any R o B n cs g A cc is m _ hS1 (hL1 _ (Below.refl _ _)) hl hok)
  have K1 : Hid ((∀ i ∈ is, ∃ q, g i = some q) → ∀ W, SW (((w.alloc (.cells #[.pointer (some ⟨B, 0, none⟩)] spT)).alloc (.cells #[.string c] 9)).alloc (.cells #[.int .i64 m] 3)) W → Calls Tryz.prog 61 #[.slice A is.length cc, .func (.func 62) #[] #[.pointer (some ⟨w.heap.size, 0, none⟩)]] W fun e w' => e = .returned (.bool (is.any (onL g fun q => q.cl))) ∧ SW W w') := Lib.hid (fun hf W hW => containsD_any _ _ A cc is (onL g fun q => q.cl) W eg_sell1 hl (hL1 W hW) (fun a W' ha hW' => sell1_any R o B n w.heap.size cs g a W' ((hS1.more hW).more hW') (hok a ha) (bel_cell hW' (bel_cell hW z0)) (by obtain ⟨q, hq⟩ := hf a ha; rw [hq]; rfl)))
  have K2 : Hid ((∀ i ∈ is, ∃ q, g i = some q) → ∀ W, SW (((w.alloc (.cells #[.pointer (some ⟨B, 0, none⟩)] spT)).alloc (.cells #[.string c] 9)).alloc (.cells #[.int .i64 m] 3)) W → Calls Tryz.prog 61 #[.slice A is.length cc, .func (.func 63) #[] #[.pointer (some ⟨w.heap.size, 0, none⟩), .pointer (some ⟨w.heap.size + 1, 0, none⟩)]] W fun e w' => e = .returned (.bool (is.any (onL g fun q => !q.has c))) ∧ SW W w') := Lib.hid (fun hf W hW => by
    rw [show is.any (onL g fun q => !q.has c) = is.any (fun i => !(onL g (fun q => q.has c) i)) from any_eq (fun i hi => by obtain ⟨q, hq⟩ := hf i hi; unfold onL; rw [hq])]
    exact containsD_any _ _ A cc is (fun i => !(onL g (fun q => q.has c) i)) W eg_sell2 hl (hL1 W hW) (fun a W' ha hW' => sell2_any R o B n w.heap.size (w.heap.size + 1) cs g K a c W' ((hS1.more hW).more hW') hG (hok a ha) (bel_cell hW' (bel_cell hW z0)) (bel_cell hW' (bel_cell hW z1))))
  have K3 : Hid ((∀ i ∈ is, ∃ q, g i = some q) → ∀ W, SW (((w.alloc (.cells #[.pointer (some ⟨B, 0, none⟩)] spT)).alloc (.cells #[.string c] 9)).alloc (.cells #[.int .i64 m] 3)) W → Calls Tryz.prog 61 #[.slice A is.length cc, .func (.func 65) #[] #[.pointer (some ⟨w.heap.size, 0, none⟩), .pointer (some ⟨w.heap.size + 1, 0, none⟩), .pointer (some ⟨w.heap.size + 1 + 1, 0, none⟩)]] W fun e w' => e = .returned (.bool (is.any (onL g fun q => decide (q.left c < m)))) ∧ SW W w') := Lib.hid (fun hf W hW => by
    rw [show is.any (onL g fun q => decide (q.left c < m)) = is.any (fun i => decide (leftG g i c < m)) from any_eq (fun i hi => by obtain ⟨q, hq⟩ := hf i hi; unfold onL leftG; rw [hq])]
    exact containsD_any _ _ A cc is (fun i => decide (leftG g i c < m)) W eg_sell3 hl (hL1 W hW) (fun a W' ha hW' => sell3_any R o B n w.heap.size (w.heap.size + 1) (w.heap.size + 1 + 1) cs g K a c m W' ((hS1.more hW).more hW') hG (hok a ha) (bel_cell hW' (bel_cell hW z0)) (bel_cell hW' (bel_cell hW z1)) (bel_cell hW' (bel_cell hW z2))))
  have KA : Hid (chkE g is m = 0 → is.any (onL g fun q => !q.has c) = false → is.any (onL g fun q => decide (q.left c < m)) = false → ∀ W, SW (((w.alloc (.cells #[.pointer (some ⟨B, 0, none⟩)] spT)).alloc (.cells #[.string c] 9)).alloc (.cells #[.int .i64 m] 3)) W → Calls Tryz.prog 66 #[.pointer (some ⟨B, 0, none⟩), .slice A is.length cc, .string c, .int .i64 m] W fun e w' => e = .returned (.tuple #[]) ∧ StkAt w' R o B n cs (addG g is c m) ∧ But w w' (MutB o)) := Lib.hid (fun h0 hT2 hT3 W hW => by
    obtain ⟨hm1, _, hnd, hf⟩ := chk_zero h0
    have hbW := hbA.trans (Below.mono hW hbA.size)
    refine (ladd_any R o B n cs g K A cc is c m W (hS1.more hW) hG hK (by omega) hl hok (fun W' h => hL W' ((But.of_below (X := MutB o) hbW).trans h (fun _ _ h => h))) hnd (fun i hi => by
      obtain ⟨q, hq⟩ := hf i hi
      have h2 := any_no hT2 i hi
      have h3 := any_no hT3 i hi
      unfold onL at h2 h3
      rw [hq] at h2 h3
      have hhas : q.has c = true := by simpa using h2
      refine ⟨q, hq, hhas, ?_⟩
      have := (hG.leg i q hq).1.sold0 hhas
      omega)).mono ?_
    rintro e w' ⟨rfl, h1, h2⟩
    exact ⟨rfl, h1, (But.of_below (X := MutB o) hbW).trans h2 (fun _ _ h => h)⟩)
  have HF : Hid (chkE g is m = 0 → ∀ i ∈ is, ∃ q, g i = some q) := Lib.hid (fun h => (chk_zero h).2.2.2)
  have HH : Hid (chkE g is m = 0 → is.any (onL g fun q => !q.has c) = false → ∀ i ∈ is, ∃ q, g i = some q ∧ q.has c = true) := Lib.hid (fun h h2 i hi => by
    obtain ⟨q, hq⟩ := (chk_zero h).2.2.2 i hi
    have h3 := any_no h2 i hi
    unfold onL at h3
    rw [hq] at h3
    exact ⟨q, hq, by simpa using h3⟩)
  have HST : Hid (∀ W, SW (((w.alloc (.cells #[.pointer (some ⟨B, 0, none⟩)] spT)).alloc (.cells #[.string c] 9)).alloc (.cells #[.int .i64 m] 3)) W → StkAt W R o B n cs g ∧ But w W (MutB o)) := Lib.hid (fun W h => ⟨hS1.more h, But.of_below (hbA.trans (Below.mono h hbA.size))⟩)
  unfold selG selP
  generalize hT1 : is.any (onL g fun q => q.cl) = T1 at *
  generalize hT2 : is.any (onL g fun q => !q.has c) = T2 at *
  generalize hT3 : is.any (onL g fun q => decide (q.left c < m)) = T3 at *
  generalize hE0 : chkE g is m = e0 at *
  clear hS hG hL hok hbA hS1 hL1 hb1 hb2 hb3
  cases hE : (e0 != 0) with
  | true =>
    have HE : Hid (e0 ≠ 0) := Lib.hid (by simpa using hE)
    rw [if_pos (by simpa using hE), if_neg (by simpa using hE)]
    have HE0 := Lib.hid hE0
    clear hE0
    go_enter Tryz.func23, Tryz.ntmps23
    go_upto_region 1 with fail
    generalize (((w.alloc (.cells #[.pointer (some ⟨B, 0, none⟩)] spT)).alloc (.cells #[.string c] 9)).alloc (.cells #[.int .i64 m] 3)) = w5 at *
    go_wp2_with (go_at_call 60; refine KC.out.mono ?_; rintro e w6 ⟨rfl, hb6⟩)
    go_ret
    exact ⟨rfl, (HST.out _ hb6).1, (HST.out _ hb6).2⟩
  | false =>
  obtain rfl : e0 = 0 := by simpa using hE
  rw [if_neg (by simp)]
  have hf := HF.out rfl
  clear HF hE
  cases T1 with
  | true =>
    rw [if_pos rfl, if_neg (by decide)]
    go_enter Tryz.func23, Tryz.ntmps23
    go_upto_region 1 with fail
    generalize (((w.alloc (.cells #[.pointer (some ⟨B, 0, none⟩)] spT)).alloc (.cells #[.string c] 9)).alloc (.cells #[.int .i64 m] 3)) = w5 at *
    go_wp2_with (first
      | (go_at_call 60; refine KC.out.mono ?_; rintro e w6 ⟨rfl, hb6⟩)
      | (go_at_call 61; with_reducible refine (K1.out hf _ hb6).mono ?_; rintro e w7 ⟨rfl, hc7⟩; have hb7 := Below.trans hb6 (Below.mono hc7 (Below.size hb6)); have u0 := bel_cell hb7 z0; have u1 := bel_cell hb7 z1; have u2 := bel_cell hb7 z2))
    go_ret
    exact ⟨rfl, (HST.out _ hb7).1, (HST.out _ hb7).2⟩
  | false =>
  rw [if_neg (by simp)]
  cases T2 with
  | true =>
    rw [if_pos rfl, if_neg (by decide)]
    go_enter Tryz.func23, Tryz.ntmps23
    go_upto_region 1 with fail
    generalize (((w.alloc (.cells #[.pointer (some ⟨B, 0, none⟩)] spT)).alloc (.cells #[.string c] 9)).alloc (.cells #[.int .i64 m] 3)) = w5 at *
    go_wp2_with (first
      | (go_at_call 60; refine KC.out.mono ?_; rintro e w6 ⟨rfl, hb6⟩)
      | (go_at_call 61; with_reducible refine (K1.out hf _ hb6).mono ?_; rintro e w7 ⟨rfl, hc7⟩; have hb7 := Below.trans hb6 (Below.mono hc7 (Below.size hb6)); have u0 := bel_cell hb7 z0; have u1 := bel_cell hb7 z1; have u2 := bel_cell hb7 z2)
      | (go_at_call 61; with_reducible refine (K2.out hf _ hb7).mono ?_; rintro e w8 ⟨rfl, hc8⟩; have hb8 := Below.trans hb7 (Below.mono hc8 (Below.size hb7)); have u0 := bel_cell hb8 z0; have u1 := bel_cell hb8 z1; have u2 := bel_cell hb8 z2))
    go_ret
    exact ⟨rfl, (HST.out _ hb8).1, (HST.out _ hb8).2⟩
  | false =>
  rw [if_neg (by simp)]
  cases T3 with
  | true =>
    rw [if_pos rfl, if_neg (by decide)]
    go_enter Tryz.func23, Tryz.ntmps23
    go_upto_region 1 with fail
    generalize (((w.alloc (.cells #[.pointer (some ⟨B, 0, none⟩)] spT)).alloc (.cells #[.string c] 9)).alloc (.cells #[.int .i64 m] 3)) = w5 at *
    go_wp2_with (first
      | (go_at_call 60; refine KC.out.mono ?_; rintro e w6 ⟨rfl, hb6⟩)
      | (go_at_call 61; with_reducible refine (K1.out hf _ hb6).mono ?_; rintro e w7 ⟨rfl, hc7⟩; have hb7 := Below.trans hb6 (Below.mono hc7 (Below.size hb6)); have u0 := bel_cell hb7 z0; have u1 := bel_cell hb7 z1; have u2 := bel_cell hb7 z2)
      | (go_at_call 61; with_reducible refine (K2.out hf _ hb7).mono ?_; rintro e w8 ⟨rfl, hc8⟩; have hb8 := Below.trans hb7 (Below.mono hc8 (Below.size hb7)); have u0 := bel_cell hb8 z0; have u1 := bel_cell hb8 z1; have u2 := bel_cell hb8 z2)
      | (go_at_call 61; with_reducible refine (K3.out hf _ hb8).mono ?_; rintro e w9 ⟨rfl, hc9⟩; have hb9 := Below.trans hb8 (Below.mono hc9 (Below.size hb8)); have u0 := bel_cell hb9 z0; have u1 := bel_cell hb9 z1; have u2 := bel_cell hb9 z2))
    go_ret
    exact ⟨rfl, (HST.out _ hb9).1, (HST.out _ hb9).2⟩
  | false =>
  rw [if_neg (by simp)]
  have KA2 := Lib.hid (KA.out rfl rfl rfl)
  rw [if_pos rfl]
  go_enter Tryz.func23, Tryz.ntmps23
  go_upto_region 1 with fail
  generalize (((w.alloc (.cells #[.pointer (some ⟨B, 0, none⟩)] spT)).alloc (.cells #[.string c] 9)).alloc (.cells #[.int .i64 m] 3)) = w5 at *
  go_wp2_with (first
    | (go_at_call 60; refine KC.out.mono ?_; rintro e w6 ⟨rfl, hb6⟩)
    | (go_at_call 61; with_reducible refine (K1.out hf _ hb6).mono ?_; rintro e w7 ⟨rfl, hc7⟩; have hb7 := Below.trans hb6 (Below.mono hc7 (Below.size hb6)); have u0 := bel_cell hb7 z0; have u1 := bel_cell hb7 z1; have u2 := bel_cell hb7 z2)
    | (go_at_call 61; with_reducible refine (K2.out hf _ hb7).mono ?_; rintro e w8 ⟨rfl, hc8⟩; have hb8 := Below.trans hb7 (Below.mono hc8 (Below.size hb7)); have u0 := bel_cell hb8 z0; have u1 := bel_cell hb8 z1; have u2 := bel_cell hb8 z2)
    | (go_at_call 61; with_reducible refine (K3.out hf _ hb8).mono ?_; rintro e w9 ⟨rfl, hc9⟩; have hb9 := Below.trans hb8 (Below.mono hc9 (Below.size hb8)); have u0 := bel_cell hb9 z0; have u1 := bel_cell hb9 z1; have u2 := bel_cell hb9 z2)
    | (go_at_call 66; refine (KA2.out _ hb9).mono ?_; rintro e w10 ⟨rfl, h10, h11⟩))
  go_ret
  exact ⟨rfl, h10, h11⟩
set_option maxRecDepth 100000 in
set_option maxHeartbeats 8000000 in
theorem lcanc_any (R : Nat → Prop) (o : Own') (B n : Nat) (cs : List Cf) (g : Stk) (K : Int) (A : Option Addr) (cc : Nat) (is : List Lid) (c : ByteArray) (m : Int) (w : World) (hS : StkAt w R o B n cs g) (hG : OkG K cs g) (hK : 0 ≤ K ∧ K ≤ 1000000000000) (hm : -1000000 ≤ m ∧ m ≤ 1000000) (hl : is.length ≤ 1000) (hok : ∀ i ∈ is, OkD i)
    (hL : ∀ W, But w W (MutB o) → LidL W (.slice A is.length cc) is) :
    Calls Tryz.prog 37 #[.pointer (some ⟨B, 0, none⟩), .slice A is.length cc, .string c, .int .i64 m] w fun e w' => e = .returned (.int .i64 (canP g is c m)) ∧ StkAt w' R o B n cs (canG g is c m) ∧ But w w' (MutB o) := by
  have hb1 := bel_alloc w (.cells #[.pointer (some ⟨B, 0, none⟩)] spT)
  have hb2 := bel_alloc (w.alloc (.cells #[.pointer (some ⟨B, 0, none⟩)] spT)) (.cells #[.string c] 9)
  have hb3 := bel_alloc ((w.alloc (.cells #[.pointer (some ⟨B, 0, none⟩)] spT)).alloc (.cells #[.string c] 9)) (.cells #[.int .i64 m] 3)
  have z0 := bel_cell hb3 (bel_cell hb2 (box1 w (.pointer (some ⟨B, 0, none⟩)) spT))
  have z1 := bel_cell hb3 (box1 (w.alloc (.cells #[.pointer (some ⟨B, 0, none⟩)] spT)) (.string c) 9)
  have z2 := box1 ((w.alloc (.cells #[.pointer (some ⟨B, 0, none⟩)] spT)).alloc (.cells #[.string c] 9)) (.int .i64 m) 3
  simp only [World.size_alloc] at z1 z2
  have hbA := (hb1.trans (hb2.mono hb1.size)).trans (hb3.mono (hb1.trans (hb2.mono hb1.size)).size)
  have HBA := Lib.hid hbA
  have hS1 := hS.more hbA
  have hL1 : ∀ W, SW (((w.alloc (.cells #[.pointer (some ⟨B, 0, none⟩)] spT)).alloc (.cells #[.string c] 9)).alloc (.cells #[.int .i64 m] 3)) W → LidL W (.slice A is.length cc) is := fun W h => hL W (But.of_below (hbA.trans (Below.mono h hbA.size)))
  have KC := Lib.hid (lcheck_any R o B n cs g A cc is m _ hS1 (hL1 _ (Below.refl _ _)) hl hok)
  have K1 : Hid ((∀ i ∈ is, ∃ q, g i = some q) → ∀ W, SW (((w.alloc (.cells #[.pointer (some ⟨B, 0, none⟩)] spT)).alloc (.cells #[.string c] 9)).alloc (.cells #[.int .i64 m] 3)) W → Calls Tryz.prog 61 #[.slice A is.length cc, .func (.func 77) #[] #[.pointer (some ⟨w.heap.size, 0, none⟩), .pointer (some ⟨w.heap.size + 1, 0, none⟩)]] W fun e w' => e = .returned (.bool (is.any (onL g fun q => !q.has c))) ∧ SW W w') := Lib.hid (fun hf W hW => by
    rw [show is.any (onL g fun q => !q.has c) = is.any (fun i => !(onL g (fun q => q.has c) i)) from any_eq (fun i hi => by obtain ⟨q, hq⟩ := hf i hi; unfold onL; rw [hq])]
    exact containsD_any _ _ A cc is (fun i => !(onL g (fun q => q.has c) i)) W eg_canc1 hl (hL1 W hW) (fun a W' ha hW' => canc1_any R o B n w.heap.size (w.heap.size + 1) cs g K a c W' ((hS1.more hW).more hW') hG (hok a ha) (bel_cell hW' (bel_cell hW z0)) (bel_cell hW' (bel_cell hW z1))))
  have K3 : Hid ((∀ i ∈ is, ∃ q, g i = some q ∧ q.has c = true) → ∀ W, SW (((w.alloc (.cells #[.pointer (some ⟨B, 0, none⟩)] spT)).alloc (.cells #[.string c] 9)).alloc (.cells #[.int .i64 m] 3)) W → Calls Tryz.prog 61 #[.slice A is.length cc, .func (.func 78) #[] #[.pointer (some ⟨w.heap.size, 0, none⟩), .pointer (some ⟨w.heap.size + 1, 0, none⟩), .pointer (some ⟨w.heap.size + 1 + 1, 0, none⟩)]] W fun e w' => e = .returned (.bool (is.any (onL g fun q => decide (q.sold c < m)))) ∧ SW W w') := Lib.hid (fun hf W hW => by
    rw [show is.any (onL g fun q => decide (q.sold c < m)) = is.any (fun i => decide (soldG g i c < m)) from any_eq (fun i hi => by obtain ⟨q, hq, _⟩ := hf i hi; unfold onL soldG; rw [hq])]
    exact containsD_any _ _ A cc is (fun i => decide (soldG g i c < m)) W eg_canc2 hl (hL1 W hW) (fun a W' ha hW' => by
      obtain ⟨q, hq, hc⟩ := hf a ha
      have h := canc2_any R o B n w.heap.size (w.heap.size + 1) (w.heap.size + 1 + 1) cs g K a c m W' ((hS1.more hW).more hW') hG (hok a ha) (bel_cell hW' (bel_cell hW z0)) (bel_cell hW' (bel_cell hW z1)) (bel_cell hW' (bel_cell hW z2)) q hq hc
      rw [show soldG g a c = q.sold c by unfold soldG; rw [hq]]
      exact h))
  have KA : Hid (chkE g is m = 0 → is.any (onL g fun q => !q.has c) = false → is.any (onL g fun q => decide (q.sold c < m)) = false → ∀ W, SW (((w.alloc (.cells #[.pointer (some ⟨B, 0, none⟩)] spT)).alloc (.cells #[.string c] 9)).alloc (.cells #[.int .i64 m] 3)) W → Calls Tryz.prog 66 #[.pointer (some ⟨B, 0, none⟩), .slice A is.length cc, .string c, .int .i64 (-m)] W fun e w' => e = .returned (.tuple #[]) ∧ StkAt w' R o B n cs (addG g is c (-m)) ∧ But w w' (MutB o)) := Lib.hid (fun h0 hT2 hT3 W hW => by
    obtain ⟨hm1, _, hnd, hf⟩ := chk_zero h0
    have hbW := hbA.trans (Below.mono hW hbA.size)
    refine (ladd_any R o B n cs g K A cc is c (-m) W (hS1.more hW) hG hK (by omega) hl hok (fun W' h => hL W' ((But.of_below (X := MutB o) hbW).trans h (fun _ _ h => h))) hnd (fun i hi => by
      obtain ⟨q, hq⟩ := hf i hi
      have h2 := any_no hT2 i hi
      have h3 := any_no hT3 i hi
      unfold onL at h2 h3
      rw [hq] at h2 h3
      have hhas : q.has c = true := by simpa using h2
      refine ⟨q, hq, hhas, ?_⟩
      simp only [decide_eq_false_iff_not] at h3
      omega)).mono ?_
    rintro e w' ⟨rfl, h1, h2⟩
    exact ⟨rfl, h1, (But.of_below (X := MutB o) hbW).trans h2 (fun _ _ h => h)⟩)
  have HF : Hid (chkE g is m = 0 → ∀ i ∈ is, ∃ q, g i = some q) := Lib.hid (fun h => (chk_zero h).2.2.2)
  have HH : Hid (chkE g is m = 0 → is.any (onL g fun q => !q.has c) = false → ∀ i ∈ is, ∃ q, g i = some q ∧ q.has c = true) := Lib.hid (fun h h2 i hi => by
    obtain ⟨q, hq⟩ := (chk_zero h).2.2.2 i hi
    have h3 := any_no h2 i hi
    unfold onL at h3
    rw [hq] at h3
    exact ⟨q, hq, by simpa using h3⟩)
  have HST : Hid (∀ W, SW (((w.alloc (.cells #[.pointer (some ⟨B, 0, none⟩)] spT)).alloc (.cells #[.string c] 9)).alloc (.cells #[.int .i64 m] 3)) W → StkAt W R o B n cs g ∧ But w W (MutB o)) := Lib.hid (fun W h => ⟨hS1.more h, But.of_below (hbA.trans (Below.mono h hbA.size))⟩)
  unfold canG canP
  generalize hT1 : is.any (onL g fun q => !q.has c) = T1 at *
  generalize hT3 : is.any (onL g fun q => decide (q.sold c < m)) = T3 at *
  generalize hE0 : chkE g is m = e0 at *
  clear hS hG hL hok hbA hS1 hL1 hb1 hb2 hb3
  cases hE : (e0 != 0) with
  | true =>
    have HE : Hid (e0 ≠ 0) := Lib.hid (by simpa using hE)
    rw [if_pos (by simpa using hE), if_neg (by simpa using hE)]
    have HE0 := Lib.hid hE0
    clear hE0
    go_enter Tryz.func37, Tryz.ntmps37
    go_upto_region 1 with fail
    generalize (((w.alloc (.cells #[.pointer (some ⟨B, 0, none⟩)] spT)).alloc (.cells #[.string c] 9)).alloc (.cells #[.int .i64 m] 3)) = w5 at *
    go_wp2_with (go_at_call 60; refine KC.out.mono ?_; rintro e w6 ⟨rfl, hb6⟩)
    go_ret
    exact ⟨rfl, (HST.out _ hb6).1, (HST.out _ hb6).2⟩
  | false =>
  obtain rfl : e0 = 0 := by simpa using hE
  rw [if_neg (by simp)]
  have hf := HF.out rfl
  clear HF hE
  cases T1 with
  | true =>
    rw [if_pos rfl, if_neg (by decide)]
    go_enter Tryz.func37, Tryz.ntmps37
    go_upto_region 1 with fail
    generalize (((w.alloc (.cells #[.pointer (some ⟨B, 0, none⟩)] spT)).alloc (.cells #[.string c] 9)).alloc (.cells #[.int .i64 m] 3)) = w5 at *
    go_wp2_with (first
      | (go_at_call 60; refine KC.out.mono ?_; rintro e w6 ⟨rfl, hb6⟩)
      | (go_at_call 61; with_reducible refine (K1.out hf _ hb6).mono ?_; rintro e w7 ⟨rfl, hc7⟩; have hb7 := Below.trans hb6 (Below.mono hc7 (Below.size hb6)); have u0 := bel_cell hb7 z0; have u1 := bel_cell hb7 z1; have u2 := bel_cell hb7 z2))
    go_ret
    exact ⟨rfl, (HST.out _ hb7).1, (HST.out _ hb7).2⟩
  | false =>
  rw [if_neg (by simp)]
  cases T3 with
  | true =>
    rw [if_pos rfl, if_neg (by decide)]
    go_enter Tryz.func37, Tryz.ntmps37
    go_upto_region 1 with fail
    generalize (((w.alloc (.cells #[.pointer (some ⟨B, 0, none⟩)] spT)).alloc (.cells #[.string c] 9)).alloc (.cells #[.int .i64 m] 3)) = w5 at *
    go_wp2_with (first
      | (go_at_call 60; refine KC.out.mono ?_; rintro e w6 ⟨rfl, hb6⟩)
      | (go_at_call 61; with_reducible refine (K1.out hf _ hb6).mono ?_; rintro e w7 ⟨rfl, hc7⟩; have hb7 := Below.trans hb6 (Below.mono hc7 (Below.size hb6)); have u0 := bel_cell hb7 z0; have u1 := bel_cell hb7 z1; have u2 := bel_cell hb7 z2)
      | (go_at_call 61; with_reducible refine (K3.out (HH.out (by first | rfl | trivial) (by first | rfl | trivial)) _ hb7).mono ?_; rintro e w8 ⟨rfl, hc8⟩; have hb8 := Below.trans hb7 (Below.mono hc8 (Below.size hb7)); have u0 := bel_cell hb8 z0; have u1 := bel_cell hb8 z1; have u2 := bel_cell hb8 z2))
    go_ret
    exact ⟨rfl, (HST.out _ hb8).1, (HST.out _ hb8).2⟩
  | false =>
  rw [if_neg (by simp)]
  have KA2 := Lib.hid (KA.out rfl rfl rfl)
  rw [if_pos rfl]
  have hng : wrap64 (-m) = -m := by unfold wrap64; omega
  go_enter Tryz.func37, Tryz.ntmps37
  go_upto_region 1 with fail
  generalize (((w.alloc (.cells #[.pointer (some ⟨B, 0, none⟩)] spT)).alloc (.cells #[.string c] 9)).alloc (.cells #[.int .i64 m] 3)) = w5 at *
  go_wp2_with (first
    | (go_at_call 60; refine KC.out.mono ?_; rintro e w6 ⟨rfl, hb6⟩)
    | (go_at_call 61; with_reducible refine (K1.out hf _ hb6).mono ?_; rintro e w7 ⟨rfl, hc7⟩; have hb7 := Below.trans hb6 (Below.mono hc7 (Below.size hb6)); have u0 := bel_cell hb7 z0; have u1 := bel_cell hb7 z1; have u2 := bel_cell hb7 z2)
    | (go_at_call 61; with_reducible refine (K3.out (HH.out (by first | rfl | trivial) (by first | rfl | trivial)) _ hb7).mono ?_; rintro e w8 ⟨rfl, hc8⟩; have hb8 := Below.trans hb7 (Below.mono hc8 (Below.size hb7)); have u0 := bel_cell hb8 z0; have u1 := bel_cell hb8 z1; have u2 := bel_cell hb8 z2)
    | (go_at_call 66; refine (KA2.out _ hb8).mono ?_; rintro e w10 ⟨rfl, h10, h11⟩))
  go_ret
  exact ⟨rfl, h10, h11⟩
/-- the words of Close -/
theorem LegAt.close {w : World} {o : Own'} {i : Lid} {a : Nat} {q : Lg} (h : LegAt w o i a q) : LegAt (w.setCell ⟨a, 3, none⟩ (.bool true)) o i a { q with cl := true } := by
  have hbut := But.setCell w a 3 (.bool true)
  obtain ⟨v, h2, h3⟩ := h.c2
  refine ⟨h.tag, Nat.lt_of_lt_of_le h.lt hbut.size, ?_, ?_, ⟨v, ?_, h3.but hbut (fun k e => by cases e; rw [h.tag]; exact ⟨fun j h => (nomatch h), fun h => (nomatch h)⟩)⟩, World.cell?_setCell_same' _ _ _ (by rw [h.c3]; rfl), fun j => by rw [World.frozen?_setCell]; exact h.froz j⟩
  · rw [World.cell?_setCell_other _ _ _ _ (by intro e; simp at e)]; exact h.c0
  · rw [World.cell?_setCell_other _ _ _ _ (by intro e; simp at e)]; exact h.c1
  · rw [World.cell?_setCell_other _ _ _ _ (by intro e; simp at e)]; exact h2
set_option maxRecDepth 100000 in
set_option maxHeartbeats 4000000 in
theorem lclose_any (R : Nat → Prop) (o : Own') (B n : Nat) (cs : List Cf) (g : Stk) (i : Lid) (w : World) (hS : StkAt w R o B n cs g) (hi : OkD i) :
    Calls Tryz.prog 36 #[.pointer (some ⟨B, 0, none⟩), aggD i] w fun e w' => e = .returned (.int .i64 (cloE g i)) ∧ StkAt w' R o B n cs (cloG g i) ∧ But w w' (MutB o) := by
  have hbA := bel_alloc w (.cells #[.string i.car, .int .i64 i.num, .int .i64 i.day, .string i.frm] lidT)
  have hS' := hS.more hbA
  obtain ⟨l0, l1, l2, l3⟩ := lid_new w i
  have HS := Lib.hid hS'
  obtain ⟨mc, ml, nc, c0, c1, _, _, _, _, hM⟩ := hS'.box
  have K0 := Lib.hid (isVoid_no B ml _ c1)
  unfold cloE cloG
  cases hq : g i with
  | none =>
    have K1 : Hid (∀ W, StkAt W R o B n cs g → Calls Tryz.prog 56 #[.pointer (some ⟨B, 0, none⟩), aggD i] W fun e w' => e = .returned (.pointer none) ∧ Below W.heap.size W w') := Lib.hid (fun W h => (lfind_any R o B n cs g i W h hi).mono (by
      rintro e w' ⟨⟨p, rfl, hp⟩, hb⟩
      rw [hq] at hp
      obtain rfl := hp
      exact ⟨rfl, hb⟩))
    clear hS hS' hq hM
    go_enter Tryz.func36, Tryz.ntmps36
    go_upto_region 1 with fail
    generalize w.alloc (.cells #[.string i.car, .int .i64 i.num, .int .i64 i.day, .string i.frm] lidT) = w5 at *
    go_wp2_with (first
      | (go_at_call 67; refine K0.out.mono ?_; rintro e w4 ⟨rfl, rfl⟩)
      | (go_at_call 56; refine (K1.out _ HS.out).mono ?_; rintro e w6 ⟨rfl, hb6⟩))
    go_ret
    exact ⟨rfl, HS.out.more hb6, But.of_below (hbA.trans (hb6.mono hbA.size))⟩
  | some q =>
    have K1 : Hid (∀ W, StkAt W R o B n cs g → Calls Tryz.prog 56 #[.pointer (some ⟨B, 0, none⟩), aggD i] W fun e w' => ∃ a, e = .returned (.pointer (some ⟨a, 0, none⟩)) ∧ LegAt w' o i a q ∧ Below W.heap.size W w') := Lib.hid (fun W h => (lfind_any R o B n cs g i W h hi).mono (by
      rintro e w' ⟨⟨p, rfl, hp⟩, hb⟩
      rw [hq] at hp
      obtain ⟨a, rfl, ha⟩ := hp
      exact ⟨a, rfl, ha, hb⟩))
    have HFIN : Hid (∀ W a, Below (w.alloc (.cells #[.string i.car, .int .i64 i.num, .int .i64 i.day, .string i.frm] lidT)).heap.size (w.alloc (.cells #[.string i.car, .int .i64 i.num, .int .i64 i.day, .string i.frm] lidT)) W → LegAt W o i a q → StkAt (W.setCell ⟨a, 3, none⟩ (.bool true)) R o B n cs (updS g i { q with cl := true }) ∧ But w (W.setCell ⟨a, 3, none⟩ (.bool true)) (MutB o)) := Lib.hid (fun W a hW ha => by
      have hbut := But.setCell W a 3 (.bool true)
      refine ⟨(HS.out.more hW).upd hbut hq ha ha.close (fun k e => by cases e; exact .inl ha.tag), (But.of_below (X := MutB o) (hbA.trans (hW.mono hbA.size))).trans hbut (fun k _ e => by cases e; unfold MutB; rw [ha.tag]; trivial)⟩)
    dsimp only
    cases hcl : q.cl with
    | true =>
      have HG2 : Hid (updS g i { q with cl := true } = g) := Lib.hid (by
        funext j
        unfold updS
        split
        · rename_i e; subst e; rw [hq]; cases q; cases hcl; rfl
        · rfl)
      rw [show (updS g i { q with cl := true }) = g from HG2.out, if_pos rfl]
      clear hS hS' hq hM HFIN HG2
      go_enter Tryz.func36, Tryz.ntmps36
      go_upto_region 1 with fail
      generalize w.alloc (.cells #[.string i.car, .int .i64 i.num, .int .i64 i.day, .string i.frm] lidT) = w5 at *
      go_upto_region 4 with (first
        | (go_at_call 67; refine K0.out.mono ?_; rintro e w4 ⟨rfl, rfl⟩)
        | (go_at_call 56; refine (K1.out _ HS.out).mono ?_; rintro e w6 ⟨a, rfl, ha, hb6⟩))
      have d3 := ha.c3
      rw [hcl] at d3
      clear ha
      go_wp2
      go_ret
      exact ⟨rfl, HS.out.more hb6, But.of_below (hbA.trans (hb6.mono hbA.size))⟩
    | false =>
      rw [if_neg (by simp)]
      clear hS hS' hq hM
      go_enter Tryz.func36, Tryz.ntmps36
      go_upto_region 1 with fail
      generalize w.alloc (.cells #[.string i.car, .int .i64 i.num, .int .i64 i.day, .string i.frm] lidT) = w5 at *
      go_upto_region 4 with (first
        | (go_at_call 67; refine K0.out.mono ?_; rintro e w4 ⟨rfl, rfl⟩)
        | (go_at_call 56; refine (K1.out _ HS.out).mono ?_; rintro e w6 ⟨a, rfl, ha, hb6⟩))
      have d3 := ha.c3
      rw [hcl] at d3
      have f3 := ha.froz 3
      have HZ := Lib.hid (HFIN.out _ a hb6 ha)
      clear ha
      go_wp2
      go_ret
      exact ⟨rfl, HZ.out.1, HZ.out.2⟩
end Go.Proofs.YtkghpapbifijcaaGreatDoor
