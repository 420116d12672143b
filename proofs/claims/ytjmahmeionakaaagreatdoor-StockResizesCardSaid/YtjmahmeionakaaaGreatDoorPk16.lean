/- Words and walks that the laws below ask: StkN, Stk1. -/
import Derived.OwnWalk
import Derived.Test.YtjmahmeionakaaaGreatDoorPk15
/- Sell, Cancel, Close. -/
namespace Go.Proofs.YtjmahmeionakaaaGreatDoor
open Go.RowKit Go.Shelf Go.Maps Go.MapKept
set_option linter.unusedSimpArgs false
set_option linter.unusedVariables false

theorem any_eq {α : Type} {p q : α → Bool} {l : List α} (h : ∀ x ∈ l, p x = q x) : l.any p = l.any q := by
  induction l with
  | nil => rfl
  | cons y r ih => rw [List.any_cons, List.any_cons, h y (by simp), ih (fun x hx => h x (by simp [hx]))]
theorem chk_zero {g : Stk} {is : List Lid} {m : Int} (h : chkE g is m = 0) : 1 ≤ m ∧ is ≠ [] ∧ is.Nodup ∧ ∀ i ∈ is, ∃ q, g i = some q := by
  unfold chkE at h
  split at h
  · cases h
  rename_i h1
  split at h
  · cases h
  rename_i h2
  split at h
  · cases h
  rename_i h3
  refine ⟨by omega, fun e => h1 (.inr e), ?_, fun i hi => ?_⟩
  · by_cases hn : is.Nodup
    · exact hn
    · exact absurd ((twi_iff is).2 hn) h2
  · cases e : g i with
    | some q => exact ⟨q, rfl⟩
    | none => exact absurd (List.any_eq_true.2 ⟨i, hi, by rw [e]; rfl⟩) h3
theorem any_no {α : Type} {p : α → Bool} {l : List α} (h : l.any p = false) : ∀ x ∈ l, p x = false := fun x hx => by
  cases e : p x with
  | false => rfl
  | true => rw [List.any_eq_true.2 ⟨x, hx, e⟩] at h; cases h
def soldG (g : Stk) (i : Lid) (c : ByteArray) : Int := match g i with
  | some q => q.sold c
  | none => 0
theorem OkL.sold0 {K : Int} {q : Lg} (h : OkL K q) {c : ByteArray} (hc : q.has c = true) : 0 ≤ q.sold c := by
  obtain ⟨b, s, x, hP⟩ := h.plc hc
  rw [hP.sold]
  exact h.low s (List.mem_of_getElem? hP.hs) x (List.mem_of_getElem? hP.hx)
set_option maxRecDepth 100000 in
set_option maxHeartbeats 8000000 in
theorem lsell_any (R : Nat → Prop) (o : Own') (B n : Nat) (cs : List Cf) (g : Stk) (K : Int) (A : Option Addr) (cc : Nat) (is : List Lid) (c : ByteArray) (m : Int) (w : World) (hS : StkAt w R o B n cs g) (hG : OkG K cs g) (hK : 0 ≤ K ∧ K ≤ 1000000000000) (hm : -1000000 ≤ m ∧ m ≤ 1000000) (hl : is.length ≤ 1000) (hok : ∀ i ∈ is, OkD i)
    (hL : ∀ W, But w W (MutB o) → LidL W (.slice A is.length cc) is) :
    Calls Tryz.prog 23 #[.pointer (some ⟨B, 0, none⟩), .slice A is.length cc, .string c, .int .i64 m] w fun e w' => e = .returned (.int .i64 (selP g is c m)) ∧ StkAt w' R o B n cs (selG g is c m) ∧ But w w' (MutB o) := by
  have hb1 := bel_alloc w (.cells #[.pointer (some ⟨B, 0, none⟩)] spT)
  have hb2 := bel_alloc (w.alloc (.cells #[.pointer (some ⟨B, 0, none⟩)] spT)) (.cells #[.string c] 9)
  have hb3 := bel_alloc ((w.alloc (.cells #[.pointer (some ⟨B, 0, none⟩)] spT)).alloc (.cells #[.string c] 9)) (.cells #[.int .i64 m] 3)
  have z0 := bel_cell hb3 (bel_cell hb2 (box1 w (.pointer (some ⟨B, 0, none⟩)) spT))
  have z1 := bel_cell hb3 (box1 (w.alloc (.cells #[.pointer (some ⟨B, 0, none⟩)] spT)) (.string c) 9)
  have z2 := box1 ((w.alloc (.cells #[.pointer (some ⟨B, 0, none⟩)] spT)).alloc (.cells #[.string c] 9)) (.int .i64 m) 3
  simp only [World.size_alloc] at z1 z2
  have hbA := (hb1.trans (hb2.mono hb1.size)).trans (hb3.mono (hb1.trans (hb2.mono hb1.size)).size)
  have HBA := Lib.hid hbA
  have hS1 := hS.more hbA
  have hL1 : ∀ W, SW (((w.alloc (.cells #[.pointer (some ⟨B, 0, none⟩)] spT)).alloc (.cells #[.string c] 9)).alloc (.cells #[.int .i64 m] 3)) W → LidL W (.slice A is.length cc) is := fun W h => hL W (But.of_below (hbA.trans (Below.mono h hbA.size)))
  have KC := Lib.hid (lcheck_any R o B n cs g A cc is m _ hS1 (hL1 _ (Below.refl _ _)) hl hok)
  have K1 : Hid ((∀ i ∈ is, ∃ q, g i = some q) → ∀ W, SW (((w.alloc (.cells #[.pointer (some ⟨B, 0, none⟩)] spT)).alloc (.cells #[.string c] 9)).alloc (.cells #[.int .i64 m] 3)) W → Calls Tryz.prog 61 #[.slice A is.length cc, .func (.func 62) #[] #[.pointer (some ⟨w.heap.size, 0, none⟩)]] W fun e w' => e = .returned (.bool (is.any (onL g fun q => q.cl))) ∧ SW W w') := Lib.hid (fun hf W hW => containsD_any _ _ A cc is (onL g fun q => q.cl) W eg_sell1 hl (hL1 W hW) (fun a W' ha hW' => sell1_any R o B n w.heap.size cs g a W' ((hS1.more hW).more hW') (hok a ha) (bel_cell hW' (bel_cell hW z0)) (by obtain ⟨q, hq⟩ := hf a ha; rw [hq]; rfl)))
  have K2 : Hid ((∀ i ∈ is, ∃ q, g i = some q) → ∀ W, SW (((w.alloc (.cells #[.pointer (some ⟨B, 0, none⟩)] spT)).alloc (.cells #[.string c] 9)).alloc (.cells #[.int .i64 m] 3)) W → Calls Tryz.prog 61 #[.slice A is.length cc, .func (.func 63) #[] #[.pointer (some ⟨w.heap.size, 0, none⟩), .pointer (some ⟨w.heap.size + 1, 0, none⟩)]] W fun e w' => e = .returned (.bool (is.any (onL g fun q => !q.has c))) ∧ SW W w') := Lib.hid (fun hf W hW => by
    rw [show is.any (onL g fun q => !q.has c) = is.any (fun i => !(onL g (fun q => q.has c) i)) from any_eq (fun i hi => by obtain ⟨q, hq⟩ := hf i hi; unfold onL; rw [hq])]
    exact containsD_any _ _ A cc is (fun i => !(onL g (fun q => q.has c) i)) W eg_sell2 hl (hL1 W hW) (fun a W' ha hW' => sell2_any R o B n w.heap.size (w.heap.size + 1) cs g K a c W' ((hS1.more hW).more hW') hG (hok a ha) (bel_cell hW' (bel_cell hW z0)) (bel_cell hW' (bel_cell hW z1))))
  have K3 : Hid ((∀ i ∈ is, ∃ q, g i = some q) → ∀ W, SW (((w.alloc (.cells #[.pointer (some ⟨B, 0, none⟩)] spT)).alloc (.cells #[.string c] 9)).alloc (.cells #[.int .i64 m] 3)) W → Calls Tryz.prog 61 #[.slice A is.length cc, .func (.func 65) #[] #[.pointer (some ⟨w.heap.size, 0, none⟩), .pointer (some ⟨w.heap.size + 1, 0, none⟩), .pointer (some ⟨w.heap.size + 1 + 1, 0, none⟩)]] W fun e w' => e = .returned (.bool (is.any (onL g fun q => decide (q.left c < m)))) ∧ SW W w') := Lib.hid (fun hf W hW => by
    rw [show is.any (onL g fun q => decide (q.left c < m)) = is.any (fun i => decide (leftG g i c < m)) from any_eq (fun i hi => by obtain ⟨q, hq⟩ := hf i hi; unfold onL leftG; rw [hq])]
    exact containsD_any _ _ A cc is (fun i => decide (leftG g i c < m)) W eg_sell3 hl (hL1 W hW) (fun a W' ha hW' => sell3_any R o B n w.heap.size (w.heap.size + 1) (w.heap.size + 1 + 1) cs g K a c m W' ((hS1.more hW).more hW') hG (hok a ha) (bel_cell hW' (bel_cell hW z0)) (bel_cell hW' (bel_cell hW z1)) (bel_cell hW' (bel_cell hW z2))))
  have KA : Hid (chkE g is m = 0 → is.any (onL g fun q => !q.has c) = false → is.any (onL g fun q => decide (q.left c < m)) = false → ∀ W, SW (((w.alloc (.cells #[.pointer (some ⟨B, 0, none⟩)] spT)).alloc (.cells #[.string c] 9)).alloc (.cells #[.int .i64 m] 3)) W → Calls Tryz.prog 66 #[.pointer (some ⟨B, 0, none⟩), .slice A is.length cc, .string c, .int .i64 m] W fun e w' => e = .returned (.tuple #[]) ∧ StkAt w' R o B n cs (addG g is c m) ∧ But w w' (MutB o)) := Lib.hid (fun h0 hT2 hT3 W hW => by
    obtain ⟨hm1, _, hnd, hf⟩ := chk_zero h0
    have hbW := hbA.trans (Below.mono hW hbA.size)
    refine (ladd_any R o B n cs g K A cc is c m W (hS1.more hW) hG hK (by omega) hl hok (fun W' h => hL W' ((But.of_below (X := MutB o) hbW).trans h (fun _ _ h => h))) hnd (fun i hi => by
      obtain ⟨q, hq⟩ := hf i hi
      have h2 := any_no hT2 i hi
      have h3 := any_no hT3 i hi
      unfold onL at h2 h3
      rw [hq] at h2 h3
      have hhas : q.has c = true := by simpa using h2
      refine ⟨q, hq, hhas, ?_⟩
      have := (hG.leg i q hq).1.sold0 hhas
      omega)).mono ?_
    rintro e w' ⟨rfl, h1, h2⟩
    exact ⟨rfl, h1, (But.of_below (X := MutB o) hbW).trans h2 (fun _ _ h => h)⟩)
  have HF : Hid (chkE g is m = 0 → ∀ i ∈ is, ∃ q, g i = some q) := Lib.hid (fun h => (chk_zero h).2.2.2)
  have HH : Hid (chkE g is m = 0 → is.any (onL g fun q => !q.has c) = false → ∀ i ∈ is, ∃ q, g i = some q ∧ q.has c = true) := Lib.hid (fun h h2 i hi => by
    obtain ⟨q, hq⟩ := (chk_zero h).2.2.2 i hi
    have h3 := any_no h2 i hi
    unfold onL at h3
    rw [hq] at h3
    exact ⟨q, hq, by simpa using h3⟩)
  have HST : Hid (∀ W, SW (((w.alloc (.cells #[.pointer (some ⟨B, 0, none⟩)] spT)).alloc (.cells #[.string c] 9)).alloc (.cells #[.int .i64 m] 3)) W → StkAt W R o B n cs g ∧ But w W (MutB o)) := Lib.hid (fun W h => ⟨hS1.more h, But.of_below (hbA.trans (Below.mono h hbA.size))⟩)
  unfold selG selP
  generalize hT1 : is.any (onL g fun q => q.cl) = T1 at *
  generalize hT2 : is.any (onL g fun q => !q.has c) = T2 at *
  generalize hT3 : is.any (onL g fun q => decide (q.left c < m)) = T3 at *
  generalize hE0 : chkE g is m = e0 at *
  clear hS hG hL hok hbA hS1 hL1 hb1 hb2 hb3
  cases hE : (e0 != 0) with
  | true =>
    have HE : Hid (e0 ≠ 0) := Lib.hid (by simpa using hE)
    rw [if_pos (by simpa using hE), if_neg (by simpa using hE)]
    have HE0 := Lib.hid hE0
    clear hE0
    go_enter Tryz.func23, Tryz.ntmps23
    go_upto_region 1 with fail
    generalize (((w.alloc (.cells #[.pointer (some ⟨B, 0, none⟩)] spT)).alloc (.cells #[.string c] 9)).alloc (.cells #[.int .i64 m] 3)) = w5 at *
    go_wp2_with (go_at_call 60; refine KC.out.mono ?_; rintro e w6 ⟨rfl, hb6⟩)
    go_ret
    exact ⟨rfl, (HST.out _ hb6).1, (HST.out _ hb6).2⟩
  | false =>
  obtain rfl : e0 = 0 := by simpa using hE
  rw [if_neg (by simp)]
  have hf := HF.out rfl
  clear HF hE
  cases T1 with
  | true =>
    rw [if_pos rfl, if_neg (by decide)]
    go_enter Tryz.func23, Tryz.ntmps23
    go_upto_region 1 with fail
    generalize (((w.alloc (.cells #[.pointer (some ⟨B, 0, none⟩)] spT)).alloc (.cells #[.string c] 9)).alloc (.cells #[.int .i64 m] 3)) = w5 at *
    go_wp2_with (first
      | (go_at_call 60; refine KC.out.mono ?_; rintro e w6 ⟨rfl, hb6⟩)
      | (go_at_call 61; with_reducible refine (K1.out hf _ hb6).mono ?_; rintro e w7 ⟨rfl, hc7⟩; have hb7 := Below.trans hb6 (Below.mono hc7 (Below.size hb6)); have u0 := bel_cell hb7 z0; have u1 := bel_cell hb7 z1; have u2 := bel_cell hb7 z2))
    go_ret
    exact ⟨rfl, (HST.out _ hb7).1, (HST.out _ hb7).2⟩
  | false =>
  rw [if_neg (by simp)]
  cases T2 with
  | true =>
    rw [if_pos rfl, if_neg (by decide)]
    go_enter Tryz.func23, Tryz.ntmps23
    go_upto_region 1 with fail
    generalize (((w.alloc (.cells #[.pointer (some ⟨B, 0, none⟩)] spT)).alloc (.cells #[.string c] 9)).alloc (.cells #[.int .i64 m] 3)) = w5 at *
    go_wp2_with (first
      | (go_at_call 60; refine KC.out.mono ?_; rintro e w6 ⟨rfl, hb6⟩)
      | (go_at_call 61; with_reducible refine (K1.out hf _ hb6).mono ?_; rintro e w7 ⟨rfl, hc7⟩; have hb7 := Below.trans hb6 (Below.mono hc7 (Below.size hb6)); have u0 := bel_cell hb7 z0; have u1 := bel_cell hb7 z1; have u2 := bel_cell hb7 z2)
      | (go_at_call 61; with_reducible refine (K2.out hf _ hb7).mono ?_; rintro e w8 ⟨rfl, hc8⟩; have hb8 := Below.trans hb7 (Below.mono hc8 (Below.size hb7)); have u0 := bel_cell hb8 z0; have u1 := bel_cell hb8 z1; have u2 := bel_cell hb8 z2))
    go_ret
    exact ⟨rfl, (HST.out _ hb8).1, (HST.out _ hb8).2⟩
  | false =>
  rw [if_neg (by simp)]
  cases T3 with
  | true =>
    rw [if_pos rfl, if_neg (by decide)]
    go_enter Tryz.func23, Tryz.ntmps23
    go_upto_region 1 with fail
    generalize (((w.alloc (.cells #[.pointer (some ⟨B, 0, none⟩)] spT)).alloc (.cells #[.string c] 9)).alloc (.cells #[.int .i64 m] 3)) = w5 at *
    go_wp2_with (first
      | (go_at_call 60; refine KC.out.mono ?_; rintro e w6 ⟨rfl, hb6⟩)
      | (go_at_call 61; with_reducible refine (K1.out hf _ hb6).mono ?_; rintro e w7 ⟨rfl, hc7⟩; have hb7 := Below.trans hb6 (Below.mono hc7 (Below.size hb6)); have u0 := bel_cell hb7 z0; have u1 := bel_cell hb7 z1; have u2 := bel_cell hb7 z2)
      | (go_at_call 61; with_reducible refine (K2.out hf _ hb7).mono ?_; rintro e w8 ⟨rfl, hc8⟩; have hb8 := Below.trans hb7 (Below.mono hc8 (Below.size hb7)); have u0 := bel_cell hb8 z0; have u1 := bel_cell hb8 z1; have u2 := bel_cell hb8 z2)
      | (go_at_call 61; with_reducible refine (K3.out hf _ hb8).mono ?_; rintro e w9 ⟨rfl, hc9⟩; have hb9 := Below.trans hb8 (Below.mono hc9 (Below.size hb8)); have u0 := bel_cell hb9 z0; have u1 := bel_cell hb9 z1; have u2 := bel_cell hb9 z2))
    go_ret
    exact ⟨rfl, (HST.out _ hb9).1, (HST.out _ hb9).2⟩
  | false =>
  rw [if_neg (by simp)]
  have KA2 := Lib.hid (KA.out rfl rfl rfl)
  rw [if_pos rfl]
  go_enter Tryz.func23, Tryz.ntmps23
  go_upto_region 1 with fail
  generalize (((w.alloc (.cells #[.pointer (some ⟨B, 0, none⟩)] spT)).alloc (.cells #[.string c] 9)).alloc (.cells #[.int .i64 m] 3)) = w5 at *
  go_wp2_with (first
    | (go_at_call 60; refine KC.out.mono ?_; rintro e w6 ⟨rfl, hb6⟩)
    | (go_at_call 61; with_reducible refine (K1.out hf _ hb6).mono ?_; rintro e w7 ⟨rfl, hc7⟩; have hb7 := Below.trans hb6 (Below.mono hc7 (Below.size hb6)); have u0 := bel_cell hb7 z0; have u1 := bel_cell hb7 z1; have u2 := bel_cell hb7 z2)
    | (go_at_call 61; with_reducible refine (K2.out hf _ hb7).mono ?_; rintro e w8 ⟨rfl, hc8⟩; have hb8 := Below.trans hb7 (Below.mono hc8 (Below.size hb7)); have u0 := bel_cell hb8 z0; have u1 := bel_cell hb8 z1; have u2 := bel_cell hb8 z2)
    | (go_at_call 61; with_reducible refine (K3.out hf _ hb8).mono ?_; rintro e w9 ⟨rfl, hc9⟩; have hb9 := Below.trans hb8 (Below.mono hc9 (Below.size hb8)); have u0 := bel_cell hb9 z0; have u1 := bel_cell hb9 z1; have u2 := bel_cell hb9 z2)
    | (go_at_call 66; refine (KA2.out _ hb9).mono ?_; rintro e w10 ⟨rfl, h10, h11⟩))
  go_ret
  exact ⟨rfl, h10, h11⟩
set_option maxRecDepth 100000 in
set_option maxHeartbeats 8000000 in
theorem lcanc_any (R : Nat → Prop) (o : Own') (B n : Nat) (cs : List Cf) (g : Stk) (K : Int) (A : Option Addr) (cc : Nat) (is : List Lid) (c : ByteArray) (m : Int) (w : World) (hS : StkAt w R o B n cs g) (hG : OkG K cs g) (hK : 0 ≤ K ∧ K ≤ 1000000000000) (hm : -1000000 ≤ m ∧ m ≤ 1000000) (hl : is.length ≤ 1000) (hok : ∀ i ∈ is, OkD i)
    (hL : ∀ W, But w W (MutB o) → LidL W (.slice A is.length cc) is) :
    Calls Tryz.prog 37 #[.pointer (some ⟨B, 0, none⟩), .slice A is.length cc, .string c, .int .i64 m] w fun e w' => e = .returned (.int .i64 (canP g is c m)) ∧ StkAt w' R o B n cs (canG g is c m) ∧ But w w' (MutB o) := by
  have hb1 := bel_alloc w (.cells #[.pointer (some ⟨B, 0, none⟩)] spT)
  have hb2 := bel_alloc (w.alloc (.cells #[.pointer (some ⟨B, 0, none⟩)] spT)) (.cells #[.string c] 9)
  have hb3 := bel_alloc ((w.alloc (.cells #[.pointer (some ⟨B, 0, none⟩)] spT)).alloc (.cells #[.string c] 9)) (.cells #[.int .i64 m] 3)
  have z0 := bel_cell hb3 (bel_cell hb2 (box1 w (.pointer (some ⟨B, 0, none⟩)) spT))
  have z1 := bel_cell hb3 (box1 (w.alloc (.cells #[.pointer (some ⟨B, 0, none⟩)] spT)) (.string c) 9)
  have z2 := box1 ((w.alloc (.cells #[.pointer (some ⟨B, 0, none⟩)] spT)).alloc (.cells #[.string c] 9)) (.int .i64 m) 3
  simp only [World.size_alloc] at z1 z2
  have hbA := (hb1.trans (hb2.mono hb1.size)).trans (hb3.mono (hb1.trans (hb2.mono hb1.size)).size)
  have HBA := Lib.hid hbA
  have hS1 := hS.more hbA
  have hL1 : ∀ W, SW (((w.alloc (.cells #[.pointer (some ⟨B, 0, none⟩)] spT)).alloc (.cells #[.string c] 9)).alloc (.cells #[.int .i64 m] 3)) W → LidL W (.slice A is.length cc) is := fun W h => hL W (But.of_below (hbA.trans (Below.mono h hbA.size)))
  have KC := Lib.hid (lcheck_any R o B n cs g A cc is m _ hS1 (hL1 _ (Below.refl _ _)) hl hok)
  have K1 : Hid ((∀ i ∈ is, ∃ q, g i = some q) → ∀ W, SW (((w.alloc (.cells #[.pointer (some ⟨B, 0, none⟩)] spT)).alloc (.cells #[.string c] 9)).alloc (.cells #[.int .i64 m] 3)) W → Calls Tryz.prog 61 #[.slice A is.length cc, .func (.func 77) #[] #[.pointer (some ⟨w.heap.size, 0, none⟩), .pointer (some ⟨w.heap.size + 1, 0, none⟩)]] W fun e w' => e = .returned (.bool (is.any (onL g fun q => !q.has c))) ∧ SW W w') := Lib.hid (fun hf W hW => by
    rw [show is.any (onL g fun q => !q.has c) = is.any (fun i => !(onL g (fun q => q.has c) i)) from any_eq (fun i hi => by obtain ⟨q, hq⟩ := hf i hi; unfold onL; rw [hq])]
    exact containsD_any _ _ A cc is (fun i => !(onL g (fun q => q.has c) i)) W eg_canc1 hl (hL1 W hW) (fun a W' ha hW' => canc1_any R o B n w.heap.size (w.heap.size + 1) cs g K a c W' ((hS1.more hW).more hW') hG (hok a ha) (bel_cell hW' (bel_cell hW z0)) (bel_cell hW' (bel_cell hW z1))))
  have K3 : Hid ((∀ i ∈ is, ∃ q, g i = some q ∧ q.has c = true) → ∀ W, SW (((w.alloc (.cells #[.pointer (some ⟨B, 0, none⟩)] spT)).alloc (.cells #[.string c] 9)).alloc (.cells #[.int .i64 m] 3)) W → Calls Tryz.prog 61 #[.slice A is.length cc, .func (.func 78) #[] #[.pointer (some ⟨w.heap.size, 0, none⟩), .pointer (some ⟨w.heap.size + 1, 0, none⟩), .pointer (some ⟨w.heap.size + 1 + 1, 0, none⟩)]] W fun e w' => e = .returned (.bool (is.any (onL g fun q => decide (q.sold c < m)))) ∧ SW W w') := Lib.hid (fun hf W hW => by
    rw [show is.any (onL g fun q => decide (q.sold c < m)) = is.any (fun i => decide (soldG g i c < m)) from any_eq (fun i hi => by obtain ⟨q, hq, _⟩ := hf i hi; unfold onL soldG; rw [hq])]
    exact containsD_any _ _ A cc is (fun i => decide (soldG g i c < m)) W eg_canc2 hl (hL1 W hW) (fun a W' ha hW' => by
      obtain ⟨q, hq, hc⟩ := hf a ha
      have h := canc2_any R o B n w.heap.size (w.heap.size + 1) (w.heap.size + 1 + 1) cs g K a c m W' ((hS1.more hW).more hW') hG (hok a ha) (bel_cell hW' (bel_cell hW z0)) (bel_cell hW' (bel_cell hW z1)) (bel_cell hW' (bel_cell hW z2)) q hq hc
      rw [show soldG g a c = q.sold c by unfold soldG; rw [hq]]
      exact h))
  have KA : Hid (chkE g is m = 0 → is.any (onL g fun q => !q.has c) = false → is.any (onL g fun q => decide (q.sold c < m)) = false → ∀ W, SW (((w.alloc (.cells #[.pointer (some ⟨B, 0, none⟩)] spT)).alloc (.cells #[.string c] 9)).alloc (.cells #[.int .i64 m] 3)) W → Calls Tryz.prog 66 #[.pointer (some ⟨B, 0, none⟩), .slice A is.length cc, .string c, .int .i64 (-m)] W fun e w' => e = .returned (.tuple #[]) ∧ StkAt w' R o B n cs (addG g is c (-m)) ∧ But w w' (MutB o)) := Lib.hid (fun h0 hT2 hT3 W hW => by
    obtain ⟨hm1, _, hnd, hf⟩ := chk_zero h0
    have hbW := hbA.trans (Below.mono hW hbA.size)
    refine (ladd_any R o B n cs g K A cc is c (-m) W (hS1.more hW) hG hK (by omega) hl hok (fun W' h => hL W' ((But.of_below (X := MutB o) hbW).trans h (fun _ _ h => h))) hnd (fun i hi => by
      obtain ⟨q, hq⟩ := hf i hi
      have h2 := any_no hT2 i hi
      have h3 := any_no hT3 i hi
      unfold onL at h2 h3
      rw [hq] at h2 h3
      have hhas : q.has c = true := by simpa using h2
      refine ⟨q, hq, hhas, ?_⟩
      simp only [decide_eq_false_iff_not] at h3
      omega)).mono ?_
    rintro e w' ⟨rfl, h1, h2⟩
    exact ⟨rfl, h1, (But.of_below (X := MutB o) hbW).trans h2 (fun _ _ h => h)⟩)
  have HF : Hid (chkE g is m = 0 → ∀ i ∈ is, ∃ q, g i = some q) := Lib.hid (fun h => (chk_zero h).2.2.2)
  have HH : Hid (chkE g is m = 0 → is.any (onL g fun q => !q.has c) = false → ∀ i ∈ is, ∃ q, g i = some q ∧ q.has c = true) := Lib.hid (fun h h2 i hi => by
    obtain ⟨q, hq⟩ := (chk_zero h).2.2.2 i hi
    have h3 := any_no h2 i hi
    unfold onL at h3
    rw [hq] at h3
    exact ⟨q, hq, by simpa using h3⟩)
  have HST : Hid (∀ W, SW (((w.alloc (.cells #[.pointer (some ⟨B, 0, none⟩)] spT)).alloc (.cells #[.string c] 9)).alloc (.cells #[.int .i64 m] 3)) W → StkAt W R o B n cs g ∧ But w W (MutB o)) := Lib.hid (fun W h => ⟨hS1.more h, But.of_below (hbA.trans (Below.mono h hbA.size))⟩)
  unfold canG canP
  generalize hT1 : is.any (onL g fun q => !q.has c) = T1 at *
  generalize hT3 : is.any (onL g fun q => decide (q.sold c < m)) = T3 at *
  generalize hE0 : chkE g is m = e0 at *
  clear hS hG hL hok hbA hS1 hL1 hb1 hb2 hb3
  cases hE : (e0 != 0) with
  | true =>
    have HE : Hid (e0 ≠ 0) := Lib.hid (by simpa using hE)
    rw [if_pos (by simpa using hE), if_neg (by simpa using hE)]
    have HE0 := Lib.hid hE0
    clear hE0
    go_enter Tryz.func37, Tryz.ntmps37
    go_upto_region 1 with fail
    generalize (((w.alloc (.cells #[.pointer (some ⟨B, 0, none⟩)] spT)).alloc (.cells #[.string c] 9)).alloc (.cells #[.int .i64 m] 3)) = w5 at *
    go_wp2_with (go_at_call 60; refine KC.out.mono ?_; rintro e w6 ⟨rfl, hb6⟩)
    go_ret
    exact ⟨rfl, (HST.out _ hb6).1, (HST.out _ hb6).2⟩
  | false =>
  obtain rfl : e0 = 0 := by simpa using hE
  rw [if_neg (by simp)]
  have hf := HF.out rfl
  clear HF hE
  cases T1 with
  | true =>
    rw [if_pos rfl, if_neg (by decide)]
    go_enter Tryz.func37, Tryz.ntmps37
    go_upto_region 1 with fail
    generalize (((w.alloc (.cells #[.pointer (some ⟨B, 0, none⟩)] spT)).alloc (.cells #[.string c] 9)).alloc (.cells #[.int .i64 m] 3)) = w5 at *
    go_wp2_with (first
      | (go_at_call 60; refine KC.out.mono ?_; rintro e w6 ⟨rfl, hb6⟩)
      | (go_at_call 61; with_reducible refine (K1.out hf _ hb6).mono ?_; rintro e w7 ⟨rfl, hc7⟩; have hb7 := Below.trans hb6 (Below.mono hc7 (Below.size hb6)); have u0 := bel_cell hb7 z0; have u1 := bel_cell hb7 z1; have u2 := bel_cell hb7 z2))
    go_ret
    exact ⟨rfl, (HST.out _ hb7).1, (HST.out _ hb7).2⟩
  | false =>
  rw [if_neg (by simp)]
  cases T3 with
  | true =>
    rw [if_pos rfl, if_neg (by decide)]
    go_enter Tryz.func37, Tryz.ntmps37
    go_upto_region 1 with fail
    generalize (((w.alloc (.cells #[.pointer (some ⟨B, 0, none⟩)] spT)).alloc (.cells #[.string c] 9)).alloc (.cells #[.int .i64 m] 3)) = w5 at *
    go_wp2_with (first
      | (go_at_call 60; refine KC.out.mono ?_; rintro e w6 ⟨rfl, hb6⟩)
      | (go_at_call 61; with_reducible refine (K1.out hf _ hb6).mono ?_; rintro e w7 ⟨rfl, hc7⟩; have hb7 := Below.trans hb6 (Below.mono hc7 (Below.size hb6)); have u0 := bel_cell hb7 z0; have u1 := bel_cell hb7 z1; have u2 := bel_cell hb7 z2)
      | (go_at_call 61; with_reducible refine (K3.out (HH.out (by first | rfl | trivial) (by first | rfl | trivial)) _ hb7).mono ?_; rintro e w8 ⟨rfl, hc8⟩; have hb8 := Below.trans hb7 (Below.mono hc8 (Below.size hb7)); have u0 := bel_cell hb8 z0; have u1 := bel_cell hb8 z1; have u2 := bel_cell hb8 z2))
    go_ret
    exact ⟨rfl, (HST.out _ hb8).1, (HST.out _ hb8).2⟩
  | false =>
  rw [if_neg (by simp)]
  have KA2 := Lib.hid (KA.out rfl rfl rfl)
  rw [if_pos rfl]
  have hng : wrap64 (-m) = -m := by unfold wrap64; omega
  go_enter Tryz.func37, Tryz.ntmps37
  go_upto_region 1 with fail
  generalize (((w.alloc (.cells #[.pointer (some ⟨B, 0, none⟩)] spT)).alloc (.cells #[.string c] 9)).alloc (.cells #[.int .i64 m] 3)) = w5 at *
  go_wp2_with (first
    | (go_at_call 60; refine KC.out.mono ?_; rintro e w6 ⟨rfl, hb6⟩)
    | (go_at_call 61; with_reducible refine (K1.out hf _ hb6).mono ?_; rintro e w7 ⟨rfl, hc7⟩; have hb7 := Below.trans hb6 (Below.mono hc7 (Below.size hb6)); have u0 := bel_cell hb7 z0; have u1 := bel_cell hb7 z1; have u2 := bel_cell hb7 z2)
    | (go_at_call 61; with_reducible refine (K3.out (HH.out (by first | rfl | trivial) (by first | rfl | trivial)) _ hb7).mono ?_; rintro e w8 ⟨rfl, hc8⟩; have hb8 := Below.trans hb7 (Below.mono hc8 (Below.size hb7)); have u0 := bel_cell hb8 z0; have u1 := bel_cell hb8 z1; have u2 := bel_cell hb8 z2)
    | (go_at_call 66; refine (KA2.out _ hb8).mono ?_; rintro e w10 ⟨rfl, h10, h11⟩))
  go_ret
  exact ⟨rfl, h10, h11⟩
/-- the words of Close -/
theorem LegAt.close {w : World} {o : Own'} {i : Lid} {a : Nat} {q : Lg} (h : LegAt w o i a q) : LegAt (w.setCell ⟨a, 3, none⟩ (.bool true)) o i a { q with cl := true } := by
  have hbut := But.setCell w a 3 (.bool true)
  obtain ⟨v, h2, h3⟩ := h.c2
  refine ⟨h.tag, Nat.lt_of_lt_of_le h.lt hbut.size, ?_, ?_, ⟨v, ?_, h3.but hbut (fun k e => by cases e; rw [h.tag]; exact ⟨fun j h => (nomatch h), fun h => (nomatch h)⟩)⟩, World.cell?_setCell_same' _ _ _ (by rw [h.c3]; rfl), fun j => by rw [World.frozen?_setCell]; exact h.froz j⟩
  · rw [World.cell?_setCell_other _ _ _ _ (by intro e; simp at e)]; exact h.c0
  · rw [World.cell?_setCell_other _ _ _ _ (by intro e; simp at e)]; exact h.c1
  · rw [World.cell?_setCell_other _ _ _ _ (by intro e; simp at e)]; exact h2
set_option maxRecDepth 100000 in
set_option maxHeartbeats 4000000 in
theorem lclose_any (R : Nat → Prop) (o : Own') (B n : Nat) (cs : List Cf) (g : Stk) (i : Lid) (w : World) (hS : StkAt w R o B n cs g) (hi : OkD i) :
    Calls Tryz.prog 36 #[.pointer (some ⟨B, 0, none⟩), aggD i] w fun e w' => e = .returned (.int .i64 (cloE g i)) ∧ StkAt w' R o B n cs (cloG g i) ∧ But w w' (MutB o) := by
  have hbA := bel_alloc w (.cells #[.string i.car, .int .i64 i.num, .int .i64 i.day, .string i.frm] lidT)
  have hS' := hS.more hbA
  obtain ⟨l0, l1, l2, l3⟩ := lid_new w i
  have HS := Lib.hid hS'
  obtain ⟨mc, ml, nc, c0, c1, _, _, _, _, hM⟩ := hS'.box
  have K0 := Lib.hid (isVoid_no B ml _ c1)
  unfold cloE cloG
  cases hq : g i with
  | none =>
    have K1 : Hid (∀ W, StkAt W R o B n cs g → Calls Tryz.prog 56 #[.pointer (some ⟨B, 0, none⟩), aggD i] W fun e w' => e = .returned (.pointer none) ∧ Below W.heap.size W w') := Lib.hid (fun W h => (lfind_any R o B n cs g i W h hi).mono (by
      rintro e w' ⟨⟨p, rfl, hp⟩, hb⟩
      rw [hq] at hp
      obtain rfl := hp
      exact ⟨rfl, hb⟩))
    clear hS hS' hq hM
    go_enter Tryz.func36, Tryz.ntmps36
    go_upto_region 1 with fail
    generalize w.alloc (.cells #[.string i.car, .int .i64 i.num, .int .i64 i.day, .string i.frm] lidT) = w5 at *
    go_wp2_with (first
      | (go_at_call 67; refine K0.out.mono ?_; rintro e w4 ⟨rfl, rfl⟩)
      | (go_at_call 56; refine (K1.out _ HS.out).mono ?_; rintro e w6 ⟨rfl, hb6⟩))
    go_ret
    exact ⟨rfl, HS.out.more hb6, But.of_below (hbA.trans (hb6.mono hbA.size))⟩
  | some q =>
    have K1 : Hid (∀ W, StkAt W R o B n cs g → Calls Tryz.prog 56 #[.pointer (some ⟨B, 0, none⟩), aggD i] W fun e w' => ∃ a, e = .returned (.pointer (some ⟨a, 0, none⟩)) ∧ LegAt w' o i a q ∧ Below W.heap.size W w') := Lib.hid (fun W h => (lfind_any R o B n cs g i W h hi).mono (by
      rintro e w' ⟨⟨p, rfl, hp⟩, hb⟩
      rw [hq] at hp
      obtain ⟨a, rfl, ha⟩ := hp
      exact ⟨a, rfl, ha, hb⟩))
    have HFIN : Hid (∀ W a, Below (w.alloc (.cells #[.string i.car, .int .i64 i.num, .int .i64 i.day, .string i.frm] lidT)).heap.size (w.alloc (.cells #[.string i.car, .int .i64 i.num, .int .i64 i.day, .string i.frm] lidT)) W → LegAt W o i a q → StkAt (W.setCell ⟨a, 3, none⟩ (.bool true)) R o B n cs (updS g i { q with cl := true }) ∧ But w (W.setCell ⟨a, 3, none⟩ (.bool true)) (MutB o)) := Lib.hid (fun W a hW ha => by
      have hbut := But.setCell W a 3 (.bool true)
      refine ⟨(HS.out.more hW).upd hbut hq ha ha.close (fun k e => by cases e; exact .inl ha.tag), (But.of_below (X := MutB o) (hbA.trans (hW.mono hbA.size))).trans hbut (fun k _ e => by cases e; unfold MutB; rw [ha.tag]; trivial)⟩)
    dsimp only
    cases hcl : q.cl with
    | true =>
      have HG2 : Hid (updS g i { q with cl := true } = g) := Lib.hid (by
        funext j
        unfold updS
        split
        · rename_i e; subst e; rw [hq]; cases q; cases hcl; rfl
        · rfl)
      rw [show (updS g i { q with cl := true }) = g from HG2.out, if_pos rfl]
      clear hS hS' hq hM HFIN HG2
      go_enter Tryz.func36, Tryz.ntmps36
      go_upto_region 1 with fail
      generalize w.alloc (.cells #[.string i.car, .int .i64 i.num, .int .i64 i.day, .string i.frm] lidT) = w5 at *
      go_upto_region 4 with (first
        | (go_at_call 67; refine K0.out.mono ?_; rintro e w4 ⟨rfl, rfl⟩)
        | (go_at_call 56; refine (K1.out _ HS.out).mono ?_; rintro e w6 ⟨a, rfl, ha, hb6⟩))
      have d3 := ha.c3
      rw [hcl] at d3
      clear ha
      go_wp2
      go_ret
      exact ⟨rfl, HS.out.more hb6, But.of_below (hbA.trans (hb6.mono hbA.size))⟩
    | false =>
      rw [if_neg (by simp)]
      clear hS hS' hq hM
      go_enter Tryz.func36, Tryz.ntmps36
      go_upto_region 1 with fail
      generalize w.alloc (.cells #[.string i.car, .int .i64 i.num, .int .i64 i.day, .string i.frm] lidT) = w5 at *
      go_upto_region 4 with (first
        | (go_at_call 67; refine K0.out.mono ?_; rintro e w4 ⟨rfl, rfl⟩)
        | (go_at_call 56; refine (K1.out _ HS.out).mono ?_; rintro e w6 ⟨a, rfl, ha, hb6⟩))
      have d3 := ha.c3
      rw [hcl] at d3
      have f3 := ha.froz 3
      have HZ := Lib.hid (HFIN.out _ a hb6 ha)
      clear ha
      go_wp2
      go_ret
      exact ⟨rfl, HZ.out.1, HZ.out.2⟩
end Go.Proofs.YtjmahmeionakaaaGreatDoor

/- A store into the map of legs; unsold; Open. -/
namespace Go.Proofs.YtjmahmeionakaaaGreatDoor
open Go.RowKit Go.Shelf Go.Maps Go.MapKept
open Go.WideElems (Fit rd rg pl rd_key rd_val rg_of rd_mk)
open Go.ChangeMaps (setBlock putKey notKey heap_setBlock_same heap_setBlock_other)
set_option linter.unusedSimpArgs false
set_option linter.unusedVariables false

/-- the map of the legs' addresses -/
def LegK (w : World) (b n : Nat) (g : Lid → Option Value) : Prop := ∃ es clock, w.heap[b]? = some (.map es clock) ∧ Fit Tryz.prog lidT Rh es clock ∧ es.size ≤ n ∧ (∀ x ∈ es.toList, ∃ c, x.key = aggD c ∧ OkD c) ∧ ∀ c v, g c = some v ↔ ∃ x ∈ es.toList, x.key = aggD c ∧ x.val = v
theorem LegK.store {w : World} {b n : Nat} {g : Lid → Option Value} (h : LegK w b n g) (hn : n < maxLen) {c : Lid} (hok : OkD c) (val : Value) :
    ∃ w', (Instr.mapUpdate lgmT (.map (some b)) (aggD c) val).run Tryz.prog w = .ok () w' ∧ LegK w' b (n + 1) (fun c' => if c' = c then some val else g c') ∧ w.grownBy w' (some b) := by
  obtain ⟨kl, hkey⟩ := key_lid c hok
  obtain ⟨es, clock, hb, F, hs, hkk, hg⟩ := h
  have hen := aggD_inj
  obtain ⟨es', clock', hrun, F', hput, _, _, hmem⟩ := Maps.fit_store (R' := Rh) lidK Tryz.underlying69 hb F (Nat.lt_of_le_of_lt hs hn) (fun _ _ _ _ hz => hz) hkey (show Rh val = some (.held val, []) from rfl)
  refine ⟨_, hrun, ⟨es', clock', heap_setBlock_same hb _, F', ?_, fun x hx => ?_, fun c' v => ?_⟩, ⟨rfl, rfl, rfl, by simp [setBlock], fun i _ hi => heap_setBlock_other hb _ (fun e => hi (by rw [e]))⟩⟩
  · have e1 : es'.size = ((es'.toList.map (rg Tryz.prog lidT Rh)).foldr DataW.insert []).length := by rw [length_sorted]; simp
    rw [e1, hput]
    unfold putKey
    rw [length_insert]
    have e2 := List.length_filter_le (notKey kl) ((es.toList.map (rg Tryz.prog lidT Rh)).foldr DataW.insert [])
    rw [length_sorted] at e2
    simp at e2
    omega
  · rcases hmem x hx with ⟨h1, _⟩ | ⟨h1, _⟩
    · exact hkk x h1
    · exact ⟨c, h1, hok⟩
  · -- who stands among the new entries
    have back : ∀ x, x ∈ es.toList → x.key ≠ aggD c → ∃ x' ∈ es'.toList, x'.key = x.key ∧ x'.val = x.val := by
      intro x hx hne
      obtain ⟨y, hy⟩ := F.reads x hx
      have hk := rd_key hy
      have h1 : rg Tryz.prog lidT Rh x ∈ (es'.toList.map (rg Tryz.prog lidT Rh)).foldr DataW.insert [] := by
        rw [hput]
        unfold putKey
        refine ChangeMaps.mem_insert_iff.2 (.inr (List.mem_filter.2 ⟨(WideShapes.sorted_perm _).mem_iff.2 (List.mem_map.2 ⟨x, hx, rfl⟩), ?_⟩))
        refine (notKey_iff (lidK.key hkey)).2 fun e1 => hne ?_
        rw [rd_h hk] at e1
        dsimp only at e1
        rw [e1] at hk
        exact lidK.inj hk hkey
      obtain ⟨x', hx', he'⟩ := List.mem_map.1 ((WideShapes.sorted_perm _).mem_iff.1 h1)
      obtain ⟨y', hy'⟩ := F'.reads x' hx'
      have hk' := rd_key hy'
      rw [rd_h hk, rd_h hk'] at he'
      simp only [Prod.mk.injEq, DataW.held.injEq] at he'
      refine ⟨x', hx', ?_, he'.2⟩
      rw [he'.1] at hk'
      exact lidK.inj hk' hk
    have new : ∃ x' ∈ es'.toList, x'.key = aggD c ∧ x'.val = val := by
      have h1 : ((kl, .held val) : Lit × DataW Value) ∈ (es'.toList.map (rg Tryz.prog lidT Rh)).foldr DataW.insert [] := by
        rw [hput]
        unfold putKey
        exact ChangeMaps.mem_insert_iff.2 (.inl rfl)
      obtain ⟨x', hx', he'⟩ := List.mem_map.1 ((WideShapes.sorted_perm _).mem_iff.1 h1)
      obtain ⟨y', hy'⟩ := F'.reads x' hx'
      have hk' := rd_key hy'
      rw [rd_h hk'] at he'
      simp only [Prod.mk.injEq, DataW.held.injEq] at he'
      refine ⟨x', hx', ?_, he'.2⟩
      rw [he'.1] at hk'
      exact lidK.inj hk' hkey
    have once : ∀ x ∈ es'.toList, ∀ x' ∈ es'.toList, x.key = x'.key → x.val = x'.val := by
      intro x hx x' hx' hxx
      have hn := ((stamped_iff es' clock').1 F'.stamped).2.2
      apply Classical.byContradiction
      intro hv
      have hne : x ≠ x' := fun e => hv (by rw [e])
      have := List.pairwise_iff_getElem.1 hn
      obtain ⟨i, hi, rfl⟩ := List.getElem_of_mem hx
      obtain ⟨j, hj, rfl⟩ := List.getElem_of_mem hx'
      rcases Nat.lt_trichotomy i j with h | h | h
      · exact this i j hi hj h hxx
      · subst h; exact hne rfl
      · exact this j i hj hi h hxx.symm
    by_cases hc : c' = c
    · subst hc
      show (if c' = c' then some val else g c') = some v ↔ _
      rw [if_pos rfl]
      obtain ⟨x', h1, h2, h3⟩ := new
      constructor
      · intro h
        cases h
        exact ⟨x', h1, h2, h3⟩
      · rintro ⟨x, hx, hxe, rfl⟩
        rw [once x hx x' h1 (hxe.trans h2.symm), h3]
    · show (if c' = c then some val else g c') = some v ↔ _
      rw [if_neg hc, hg]
      constructor
      · rintro ⟨x, hx, hxe, rfl⟩
        obtain ⟨x', h1, h2, h3⟩ := back x hx (fun e => hc (hen _ _ (hxe.symm.trans e)))
        exact ⟨x', h1, h2.trans hxe, h3⟩
      · rintro ⟨x, hx, hxe, rfl⟩
        rcases hmem x hx with ⟨h1, _⟩ | ⟨h1, _⟩
        · exact ⟨x, h1, hxe, rfl⟩
        · exact absurd (hen _ _ (hxe.symm.trans h1)) hc

theorem LegM.legK {w : World} {o : Own'} {b n : Nat} {g : Stk} (h : LegM w o b n g) : ∃ hh : Lid → Option Value, LegK w b n hh ∧ ∀ i, match g i with
      | some q => ∃ a, hh i = some (.pointer (some ⟨a, 0, none⟩)) ∧ LegAt w o i a q
      | none => hh i = none := h
/-- a new leg -/
theorem LegM.put {w : World} {o : Own'} {b n : Nat} {g : Stk} (h : LegM w o b n g) (ho : o b = .map) (hn : n < maxLen) {i : Lid} (hok : OkD i) {a : Nat} {q : Lg} (ha : LegAt w o i a q) :
    ∃ w', (Instr.mapUpdate lgmT (.map (some b)) (aggD i) (.pointer (some ⟨a, 0, none⟩))).run Tryz.prog w = .ok () w' ∧ LegM w' o b (n + 1) (updS g i q) ∧ w.grownBy w' (some b) := by
  obtain ⟨hh, hK, h3⟩ := h.legK
  obtain ⟨w', hrun, hK', hgr⟩ := hK.store hn hok (.pointer (some ⟨a, 0, none⟩))
  have hbut : But w w' (fun k => k = b) := ⟨hgr.os, hgr.tape, hgr.output, hgr.size, fun k hk hne => hgr.block k hk (fun e => hne (Option.some.inj e))⟩
  have hx : ∀ k j, (k = b) → (∀ m, o k ≠ .row j m) ∧ o k ≠ .sl j ∧ o k ≠ .leg j := fun k j e => by rw [e, ho]; exact ⟨fun m h => (nomatch h), fun h => (nomatch h), fun h => (nomatch h)⟩
  refine ⟨w', hrun, ⟨_, hK', fun j => ?_⟩, hgr⟩
  unfold updS
  by_cases e : j = i
  · subst e
    rw [if_pos rfl]
    exact ⟨a, if_pos rfl, ha.but hbut (fun k hk => hx k _ hk)⟩
  · rw [if_neg e]
    have h4 := h3 j
    revert h4
    cases g j with
    | none => intro h; show (if j = i then _ else hh j) = none; rw [if_neg e]; exact h
    | some p => rintro ⟨a2, e2, h5⟩; exact ⟨a2, by show (if j = i then _ else hh j) = _; rw [if_neg e]; exact e2, h5.but hbut (fun k hk => hx k _ hk)⟩
theorem LegM.own {w : World} {o o' : Own'} {b n : Nat} {g : Stk} (h : LegM w o b n g) (hx : ∀ k i, k < w.heap.size → (g i).isSome = true → (o k = .leg i ∨ o k = .sl i ∨ ∃ j, o k = .row i j) → o' k = o k) : LegM w o' b n g := by
  obtain ⟨hh, hK, h3⟩ := h
  refine ⟨hh, hK, fun j => ?_⟩
  have h4 := h3 j
  cases hg : g j with
  | none => rw [hg] at h4; exact h4
  | some p =>
    rw [hg] at h4
    obtain ⟨a2, e2, h5⟩ := h4
    exact ⟨a2, e2, h5.own (fun k hk h => hx k j hk (by rw [hg]; rfl) h)⟩

/-! ### unsold -/
abbrev rowsT : TypeId := 91
abbrev rowT : TypeId := 98
def encP (p : Nat × Nat) : List Value := [.slice (some ⟨p.1, 0, none⟩) p.2 p.2]
theorem rowP : RT Tryz.prog rowsT rowT 1 encP where
  ht := Tryz.underlying91
  info := ⟨.slice none 0 0, 24, by kernel_rfl, rfl, by omega⟩
  len x := rfl
  one x u hu := by simp [encP] at hu; rcases hu with rfl; rfl
  pos := by omega
/-- the rows that have been made -/
structure UnsR (N : Nat) (w : World) (v : Value) (l : List Cb) (L : List (Nat × Nat)) : Prop where
  row : ROwn rowT 1 encP N w v L
  len : L.map Prod.snd = l.map fun b => b.l.length
  at' : ∀ p ∈ L, Row w p.1 (List.replicate p.2 0) ∧ N ≤ p.1 ∧ v.ownBlock ≠ some p.1
  asc : (L.map Prod.fst).Pairwise (· < ·)
theorem UnsR.nil (w : World) : UnsR w.heap.size w (.slice none 0 0) [] [] := ⟨ROwn.nil (Nat.le_refl _), rfl, fun p hp => (by cases hp), List.Pairwise.nil⟩
theorem UnsR.app {N : Nat} {w W w' : World} {v v' : Value} {l : List Cb} {L : List (Nat × Nat)} {b : Cb} {g : Nat} (h : UnsR N w v l L) (hb : Below w.heap.size w W) (hg : Row W g (List.replicate b.l.length 0)) (hgw : w.heap.size ≤ g) (hO : ROwn rowT 1 encP N w' v' (L ++ [(g, b.l.length)])) (hC : Chg W w' v v') : UnsR N w' v' (l ++ [b]) (L ++ [(g, b.l.length)]) := by
  have hvg : v.ownBlock ≠ some g := fun e => by have := (h.row.low e).2; omega
  have hold : ∀ p ∈ L ++ [(g, b.l.length)], Row W p.1 (List.replicate p.2 0) ∧ N ≤ p.1 ∧ v.ownBlock ≠ some p.1 := fun p hp => by
    rcases List.mem_append.1 hp with hp | hp
    · obtain ⟨h1, h2, h3⟩ := h.at' p hp
      exact ⟨h1.more hb, h2, h3⟩
    · rw [List.mem_singleton.1 hp]
      exact ⟨hg, Nat.le_trans h.row.base hgw, hvg⟩
  refine ⟨hO, by rw [List.map_append, List.map_append, h.len]; rfl, fun p hp => ?_, ?_⟩
  · obtain ⟨h1, h2, h3⟩ := hold p hp
    refine ⟨h1.but hC.but h3, h2, fun e => ?_⟩
    rcases hC.own _ e with h4 | h4
    · exact h3 h4
    · have := h1.lt; omega
  · rw [List.map_append, List.pairwise_append]
    refine ⟨h.asc, List.pairwise_singleton _ _, fun x hx y hy => ?_⟩
    obtain ⟨p, hp, rfl⟩ := List.mem_map.1 hx
    simp only [List.map_cons, List.map_nil, List.mem_singleton] at hy
    subst hy
    have := (h.at' p hp).1.lt
    omega
set_option maxRecDepth 100000 in
set_option maxHeartbeats 8000000 in
theorem unsold_any (f : Cf) (w : World) (hf : CfAt w f) (hs : smallF f) :
    Calls Tryz.prog 70 #[aggCf f] w fun e w' => ∃ v L, e = .returned v ∧ UnsR w.heap.size w' v f.l L ∧ Below w.heap.size w w' := by
  obtain ⟨i0, hi, hz0, hz1, hz2⟩ := info_parts intT
  have HI := Lib.hid hi
  have HZ0 := Lib.hid hz0
  have HZ1 := Lib.hid hz1
  have HZ2 := Lib.hid hz2
  have hbA := bel_alloc w (.cells #[.string f.equip, .slice f.A f.l.length f.c] cfT)
  have q0 := (cells_new w #[.string f.equip, .slice f.A f.l.length f.c] cfT 0).trans (show _ = some (Value.string f.equip) from rfl)
  have q1 := (cells_new w #[.string f.equip, .slice f.A f.l.length f.c] cfT 1).trans (show _ = some (Value.slice f.A f.l.length f.c) from rfl)
  have HF := Lib.hid hf
  have HS := Lib.hid hs
  obtain ⟨m, hm⟩ : ∃ m, m = f.l.length := ⟨_, rfl⟩
  have HM := Lib.hid hm
  have hm8 : m ≤ 8 := by rw [hm]; exact hs.1
  rw [← hm] at q1
  clear hi hz0 hz1 hz2 hf hs
  rw [show aggCf f = .agg #[.string f.equip, .slice f.A m f.c] by rw [hm]]
  rw [← hm] at hbA q0
  clear hm
  go_enter Tryz.func70, Tryz.ntmps70
  go_upto_region 1 with fail
  generalize w.alloc (.cells #[.string f.equip, .slice f.A m f.c] cfT) = w5 at *
  go_wp2
  go_loopw [9, 3] (fun vi vn wr => ∃ (k : Nat) (v : Value), k ≤ m ∧ vi = .int .i64 k ∧ v = vn ∧ Hid ((∃ L, UnsR w.heap.size wr v (f.l.take k) L) ∧ SW w wr)) (fun vi _ _ => m - (intOf vi).toNat)
  case atStart => exact ⟨0, _, Nat.zero_le _, rfl, rfl, Lib.hid ⟨⟨[], ⟨⟨World.ownsRow_nil _ _ _ _, hbA.size⟩, rfl, fun p hp => (by cases hp), List.Pairwise.nil⟩⟩, hbA⟩⟩
  case round =>
    obtain ⟨k, v, hk, rfl, rfl, HH⟩ := hrel
    by_cases hlt : k < m
    · obtain ⟨b, hb⟩ : ∃ b, f.l[k]? = some b := ⟨_, List.getElem?_eq_getElem (by have := HM.out; omega)⟩
      have hSr : SW w wr := HH.out.2
      obtain ⟨gg, oo, hA, k0, k1, k2, k3⟩ := cab_cells (CfAt.more HF.out hSr) hb
      rw [Nat.add_zero] at k0
      rw [hA]
      have j2 : (k : Int) < (m : Int) := by omega
      have hB30 : b.l.length ≤ 30 := HS.out.2 b (List.mem_of_getElem? hb)
      have HT : Hid (f.l.take (k + 1) = f.l.take k ++ [b]) := Lib.hid (by rw [List.take_add_one, hb]; rfl)
      obtain ⟨L, hU⟩ := HH.out.1
      have HLn : Hid (L.length ≤ 100000000) := Lib.hid (by
        have h1 := congrArg List.length hU.len
        rw [List.length_map, List.length_map, List.length_take] at h1
        omega)
      obtain ⟨m0, m1, m2, m3⟩ := cb_new wr b
      have hbB := bel_alloc wr (.cells #[.string b.name, .int .i64 b.seats, .int .i64 b.over, .slice b.A b.l.length b.c] cbT)
      have HU := Lib.hid hU
      clear hb HH hU
      generalize f.l.take k = l0 at *
      obtain ⟨cn, hcn⟩ : ∃ cn, cn = b.l.length := ⟨_, rfl⟩
      have HCN := Lib.hid hcn
      rw [← hcn] at hB30 k3 m0 m1 m2 m3 hbB
      clear hcn
      go_upto_region 5 with fail
      clear k0 k1 k2 k3
      generalize wr.alloc (.cells #[.string b.name, .int .i64 b.seats, .int .i64 b.over, .slice b.A cn b.c] cbT) = w8 at *
      have HQ : Hid (∀ v' w', ROwn rowT 1 encP w.heap.size w' v' (L ++ [(w8.heap.size, cn)]) → Chg (w8.alloc (.cells (madeCells #[.int .i64 0] cn) 3)) w' v v' → UnsR w.heap.size w' v' (l0 ++ [b]) (L ++ [(w8.heap.size, cn)]) ∧ SW w w') := Lib.hid (fun v' w' hO hC => by
        have hbC := bel_alloc w8 (.cells (madeCells #[.int .i64 0] cn) 3)
        have hbD := hbB.trans (hbC.mono hbB.size)
        have hR := Row.made w8 cn 3
        rw [HCN.out] at hR hO hC hbD ⊢
        refine ⟨HU.out.app hbD hR hbB.size hO hC, Below.trans hSr (Below.trans (hbD.mono hSr.size) (hC.but.below (Nat.le_trans hSr.size hbD.size) (fun k hk e => by have := (HU.out.row.low e).1; omega)))⟩)
      have hO := (HU.out.row.more hbB).more (bel_alloc w8 (.cells (madeCells #[.int .i64 0] cn) 3))
      clear hbB
      go_wp2_with (first
        | (at_make; refine wpList_make_row _ rfl _ _ 98 rfl 3 i0 (.int .i64 0) Tryz.underlying98 HI.out HZ0.out HZ1.out rfl _ _ cn rfl rfl (by rw [HZ2.out]; omega) (by omega) ?_)
        | (at_builtin; refine wpList_rapp rowP rfl _ _ rfl hO rfl (bel_alloc _ _) _ (w8.heap.size, cn) _ rfl (cs := #[.slice (some ⟨w8.heap.size, 0, none⟩) cn cn]) rfl (by have h := heap_alloc_new (w8.alloc (.cells (madeCells #[.int .i64 0] cn) 3)) (.cells #[.slice (some ⟨w8.heap.size, 0, none⟩) cn cn] rowT); rw [World.size_alloc] at h; exact h) HLn.out ?_; intro v10 w10 hO10 hC10))
      have HY : Hid ((∃ L, UnsR w.heap.size w10 v10 (f.l.take (k + 1)) L) ∧ SW w w10) := Lib.hid ⟨⟨_, by rw [HT.out]; exact (HQ.out _ _ hO10 hC10).1⟩, (HQ.out _ _ hO10 hC10).2⟩
      clear hO hO10 hC10
      go_roundw
      case rel => exact ⟨k + 1, _, by omega, by go_num, rfl, HY⟩
      case measure => simp [intOf]; omega
    · obtain rfl : k = m := by omega
      have HY : Hid ((∃ L, UnsR w.heap.size wr v f.l L) ∧ SW w wr) := Lib.hid (by
        have h := HH.out
        rw [HM.out, List.take_length] at h
        exact h)
      clear HH
      go_wp2
      go_ret
      obtain ⟨⟨L, hU⟩, hb⟩ := HY.out
      exact ⟨_, L, rfl, hU, hb⟩
end Go.Proofs.YtjmahmeionakaaaGreatDoor
