/- slices.IndexFunc and slices.ContainsFunc at identifiers of legs. -/
import Derived.Test.YtkghpapbifijcaaGreatDoorStkC
import Derived.Deep.LoopGhost
namespace Go.Proofs.YtkghpapbifijcaaGreatDoor
open Go.RowKit Go.Shelf
set_option linter.unusedSimpArgs false
set_option linter.unusedVariables false

theorem idxQ_any {α : Type} (p : α → Bool) (l : List α) : decide (0 ≤ idxQ p l) = l.any p := by
  rcases idxQ_find p l with ⟨h1, _, h3⟩ | ⟨k, a, h1, h2, _, _, h5, _⟩
  · have : l.any p = false := by
      rw [List.any_eq_false]
      intro x hx
      obtain ⟨j, hj, rfl⟩ := List.getElem_of_mem hx
      rw [h3 j _ (List.getElem?_eq_getElem hj)]
      simp
    rw [this, h1]
    rfl
  · have : l.any p = true := List.any_eq_true.2 ⟨a, List.mem_of_getElem? h2, h5⟩
    rw [this, h1]
    simp
set_option maxHeartbeats 4000000 in
set_option maxRecDepth 100000 in
theorem idxD_any (g : Nat) (cb : Array Value) (A : Option Addr) (c : Nat) (l : List Lid) (p : Lid → Bool) (w : World) (eg : ∀ args w, (callFunc g args).run Tryz.prog w = .ok (.enter g args) w) (hl : l.length ≤ 1000) (hL : LidL w (.slice A l.length c) l)
    (hf : ∀ (a : Lid) (W : World), a ∈ l → Below w.heap.size w W → Calls Tryz.prog g (#[aggD a] ++ cb) W fun e w' => e = .returned (.bool (p a)) ∧ Below W.heap.size W w') :
    Calls Tryz.prog 108 #[.slice A l.length c, .func (.func g) #[] cb] w fun e w' => e = .returned (.int .i64 (idxQ p l)) ∧ Below w.heap.size w w' := by
  have HF := Lib.hid hf
  have HI : Hid (∀ (k : Nat) (a : Lid), (∀ (j : Nat) (x : Lid), j < k → l[j]? = some x → p x = false) → l[k]? = some a → p a = true → idxQ p l = (k : Int)) := Lib.hid (fun k a => idxQ_yes)
  have HN : Hid ((∀ (j : Nat) (x : Lid), l[j]? = some x → p x = false) → idxQ p l = -1) := Lib.hid idxQ_no
  have HL := Lib.hid hL
  clear hf hL
  generalize idxQ p l = r at *
  go_enter Tryz.func108, Tryz.ntmps108
  go_wp2
  go_loopw [8] (fun vi wr => ∃ k : Nat, k ≤ l.length ∧ vi = .int .i64 k ∧ Hid (∀ (j : Nat) (x : Lid), j < k → l[j]? = some x → p x = false) ∧ Below w.heap.size w wr) (fun vi _ => l.length - (intOf vi).toNat)
  case atStart => exact ⟨0, Nat.zero_le _, rfl, Lib.hid (fun j x hj => absurd hj (Nat.not_lt_zero _)), Below.refl _ _⟩
  case round =>
    obtain ⟨k, hk, rfl, HK, hb⟩ := hrel
    by_cases hlt : k < l.length
    · obtain ⟨a, hka⟩ : ∃ a, l[k]? = some a := ⟨_, List.getElem?_eq_getElem hlt⟩
      obtain ⟨b, off, e1, hgl, ha⟩ := row_get (HL.out.more hb) hka
      cases e1
      have i2 : (k : Int) < (l.length : Int) := by omega
      have z0 := ha 0 _ rfl
      have z1 := ha 1 _ rfl
      have z2 := ha 2 _ rfl
      have z3 := ha 3 _ rfl
      rw [Nat.add_zero] at z0
      have hc := HF.out a wr (List.mem_of_getElem? hka) hb
      clear ha hgl
      cases hp : p a <;> rw [hp] at hc
      · have HP := Lib.hid hp
        have HA := Lib.hid hka
        clear hp hka
        go_wp2_with (refine hc.mono ?_; rintro e w' ⟨rfl, hb'⟩)
        go_roundw
        case rel =>
          refine ⟨k + 1, by omega, by go_num, Lib.hid (fun j x hj hx => ?_), hb.trans (hb'.mono hb.size)⟩
          by_cases hjk : j = k
          · subst hjk
            rw [HA.out] at hx
            cases hx
            exact HP.out
          · exact HK.out j x (by omega) hx
        case measure => simp [intOf]; omega
      · have HR := Lib.hid (HI.out k a HK.out hka hp)
        clear hp hka
        go_wp2_with (refine hc.mono ?_; rintro e w' ⟨rfl, hb'⟩)
        go_ret
        exact ⟨by rw [HR.out]; rfl, hb.trans (hb'.mono hb.size)⟩
    · have HR := Lib.hid (HN.out (fun j x hx => HK.out j x (by have := (List.getElem?_eq_some_iff.1 hx).1; omega) hx))
      go_wp2
      go_ret
      exact ⟨by rw [HR.out]; rfl, hb⟩
set_option maxHeartbeats 1000000 in
theorem containsD_any (g : Nat) (cb : Array Value) (A : Option Addr) (c : Nat) (l : List Lid) (p : Lid → Bool) (w : World) (eg : ∀ args w, (callFunc g args).run Tryz.prog w = .ok (.enter g args) w) (hl : l.length ≤ 1000) (hL : LidL w (.slice A l.length c) l)
    (hf : ∀ (a : Lid) (W : World), a ∈ l → Below w.heap.size w W → Calls Tryz.prog g (#[aggD a] ++ cb) W fun e w' => e = .returned (.bool (p a)) ∧ Below W.heap.size W w') :
    Calls Tryz.prog 61 #[.slice A l.length c, .func (.func g) #[] cb] w fun e w' => e = .returned (.bool (l.any p)) ∧ Below w.heap.size w w' := by
  have HI := Lib.hid (idxD_any g cb A c l p w eg hl hL hf)
  rw [← idxQ_any p l]
  clear hf hL
  generalize idxQ p l = r at *
  by_cases hr : 0 ≤ r
  · have hd : decide (0 ≤ r) = true := decide_eq_true hr
    rw [hd]
    go_enter Tryz.func61, Tryz.ntmps61
    go_wp2_with (go_at_call 108; refine HI.out.mono ?_; rintro e w' ⟨rfl, hb⟩)
    go_ret
    exact ⟨rfl, hb⟩
  · have hd : decide (0 ≤ r) = false := decide_eq_false hr
    rw [hd]
    go_enter Tryz.func61, Tryz.ntmps61
    go_wp2_with (go_at_call 108; refine HI.out.mono ?_; rintro e w' ⟨rfl, hb⟩)
    go_ret
    exact ⟨rfl, hb⟩
end Go.Proofs.YtkghpapbifijcaaGreatDoor
