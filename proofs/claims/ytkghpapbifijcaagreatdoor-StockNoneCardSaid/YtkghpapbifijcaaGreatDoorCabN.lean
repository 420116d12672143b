/- Small and Same. -/
import Derived.Test.YtkghpapbifijcaaGreatDoorCabL
import Derived.Test.YtkghpapbifijcaaGreatDoorCabG
import Derived.Deep.LoopGhost
import Derived.BigQuiet
import Derived.Deep.CutRange
import Derived.Deep.CutBlock
namespace Go.Proofs.YtkghpapbifijcaaGreatDoor
open Go.RowKit Go.Shelf
set_option linter.unusedSimpArgs false
set_option linter.unusedVariables false

def smallF (f : Cf) : Prop := f.l.length ≤ 8 ∧ ∀ b ∈ f.l, b.l.length ≤ 30
def SmallP (l : List Cf) : Prop := l.length ≤ 8 ∧ ∀ f ∈ l, smallF f
open Classical in
noncomputable def smallB (l : List Cf) : Bool := decide (SmallP l)
theorem small_yes {l : List Cf} (h : SmallP l) : smallB l = true := @decide_eq_true _ (Classical.propDecidable _) h
theorem small_no {l : List Cf} (h : ¬ SmallP l) : smallB l = false := @decide_eq_false _ (Classical.propDecidable _) h
theorem smallB_iff {l : List Cf} : smallB l = true ↔ SmallP l := @decide_eq_true_iff _ (Classical.propDecidable _)

set_option maxRecDepth 100000 in
set_option maxHeartbeats 8000000 in
theorem small_any (A : Option Addr) (c : Nat) (l : List Cf) (w : World) (hv : CfL w (.slice A l.length c) l) :
    Calls Tryz.prog 32 #[.slice A l.length c] w fun e w' => e = .returned (.bool (smallB l)) ∧ w' = w := by
  have HV := Lib.hid hv
  clear hv
  by_cases hl : 8 < l.length
  · have HX : Hid (smallB l = false) := Lib.hid (small_no (fun h => by have := h.1; omega))
    have g0 : (8 : Int) < (l.length : Int) := by omega
    generalize smallB l = R at *
    go_enter Tryz.func32, Tryz.ntmps32
    go_wp2
    go_ret
    exact ⟨ret_bool HX.out.symm, rfl⟩
  have g0 : ¬ (8 : Int) < (l.length : Int) := by omega
  have HY := Lib.hid (small_yes (l := l))
  have HNo := Lib.hid (small_no (l := l))
  generalize smallB l = R at *
  go_enter Tryz.func32, Tryz.ntmps32
  go_wp2
  go_loopg [3] l.length (fun kx v3 wr => ∃ i : Nat, v3 = .int .i64 i ∧ i + kx = l.length ∧ Hid (∀ (j : Nat) (f : Cf), j < i → l[j]? = some f → smallF f) ∧ wr = w)
  case atStart => exact ⟨0, rfl, by omega, Lib.hid (fun j x hj => absurd hj (Nat.not_lt_zero _)), rfl⟩
  case round =>
    obtain ⟨i, rfl, hix, HK, hwr⟩ := hrel
    have hwr := hwr.symm
    subst hwr
    have HIX := Lib.hid hix
    by_cases hlt : i < l.length
    · obtain ⟨f, hf⟩ : ∃ f, l[i]? = some f := ⟨_, List.getElem?_eq_getElem hlt⟩
      obtain ⟨b1, o1, e1, hgl, hc⟩ := row_get HV.out.1 hf
      cases e1
      have z1 := hc 1 _ rfl
      have i2 : (i : Int) < (l.length : Int) := by omega
      have HF := Lib.hid hf
      clear hc hgl hix
      by_cases h8 : 8 < f.l.length
      · have HX : Hid (R = false) := Lib.hid (HNo.out (fun h => by have := (h.2 f (List.mem_of_getElem? hf)).1; omega))
        have g1 : (8 : Int) < (f.l.length : Int) := by omega
        clear hf
        go_wp2
        go_ret
        exact ⟨ret_bool HX.out.symm, rfl⟩
      have g1 : ¬ (8 : Int) < (f.l.length : Int) := by omega
      obtain ⟨n, hn⟩ : ∃ n, n = f.l.length := ⟨_, rfl⟩
      have HN := Lib.hid hn
      rw [← hn] at z1 g1 h8
      clear hf hn
      go_upto_region 9 with fail
      have HZ1 := Lib.hid z1
      clear z1
      go_loopg [4] n (fun kx v4 wq => ∃ k : Nat, v4 = .int .i64 k ∧ k + kx = n ∧ Hid (∀ (j : Nat) (b : Cb), j < k → f.l[j]? = some b → b.l.length ≤ 30) ∧ wq = w)
      case atStart => exact ⟨0, rfl, by omega, Lib.hid (fun j x hj => absurd hj (Nat.not_lt_zero _)), rfl⟩
      case round =>
        obtain ⟨k, rfl, hkx, HC, hwr⟩ := hrel
        have hwr := hwr.symm
        subst hwr
        have HKX := Lib.hid hkx
        have hk8 : k ≤ 8 := by omega
        by_cases hlk : k < n
        · obtain ⟨b, hb⟩ : ∃ b, f.l[k]? = some b := ⟨_, List.getElem?_eq_getElem (by have := HN.out; omega)⟩
          obtain ⟨b2, o2, e2, hg2, hc2⟩ := row_get (HV.out.2 f (List.mem_of_getElem? HF.out)).1 hb
          have z1 := HZ1.out
          rw [e2] at z1
          have y3 := hc2 3 _ rfl
          have i3 : (k : Int) < (n : Int) := by omega
          have HB := Lib.hid hb
          clear hc2 hg2 e2 hkx hb
          by_cases h30 : 30 < b.l.length
          · have HX : Hid (R = false) := Lib.hid (HNo.out (fun h => by have := (h.2 f (List.mem_of_getElem? HF.out)).2 b (List.mem_of_getElem? HB.out); omega))
            have g2 : (30 : Int) < (b.l.length : Int) := by omega
            go_wp2
            go_ret
            exact ⟨ret_bool HX.out.symm, rfl⟩
          · have g2 : ¬ (30 : Int) < (b.l.length : Int) := by omega
            have HC2 : Hid (∀ (j : Nat) (b : Cb), j < k + 1 → f.l[j]? = some b → b.l.length ≤ 30) := Lib.hid (fun j x hj hx => by
              by_cases hji : j = k
              · subst hji; rw [HB.out] at hx; cases hx; omega
              · exact HC.out j x (by omega) hx)
            go_wp2
            go_roundg (n - (k + 1))
            case measure => have := HKX.out; omega
            case rel => exact ⟨k + 1, by go_num, by have := HKX.out; omega, HC2, by first | rfl | trivial⟩
        · have i3 : ¬ (k : Int) < (n : Int) := by omega
          have z1 := HZ1.out
          have HK2 : Hid (∀ (j : Nat) (f : Cf), j < i + 1 → l[j]? = some f → smallF f) := Lib.hid (fun j x hj hx => by
            by_cases hji : j = i
            · subst hji
              rw [HF.out] at hx
              cases hx
              refine ⟨by have := HN.out; omega, fun b hb => ?_⟩
              obtain ⟨m, hm, rfl⟩ := List.getElem_of_mem hb
              exact HC.out m _ (by have := HN.out; omega) (List.getElem?_eq_getElem hm)
            · exact HK.out j x (by omega) hx)
          go_wp2
          go_roundg (l.length - (i + 1))
          case measure => have := HIX.out; omega
          case rel => exact ⟨i + 1, by go_num, by have := HIX.out; omega, HK2, by first | rfl | trivial⟩
    · have HX : Hid (R = true) := Lib.hid (HY.out ⟨by omega, fun f hf => by
        obtain ⟨m, hm, rfl⟩ := List.getElem_of_mem hf
        exact HK.out m _ (by omega) (List.getElem?_eq_getElem hm)⟩)
      have i2 : ¬ (i : Int) < (l.length : Int) := by omega
      go_wp2
      go_ret
      exact ⟨ret_bool HX.out.symm, rfl⟩
end Go.Proofs.YtkghpapbifijcaaGreatDoor
