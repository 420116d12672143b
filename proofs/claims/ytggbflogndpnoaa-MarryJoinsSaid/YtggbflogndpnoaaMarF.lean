/- The greatest number; a group that is found. -/
import Derived.Test.YtggbflogndpnoaaMarE
namespace Go.Proofs.Ytggbflogndpnoaa
open Go.RowKit Go.Shelf Go.Maps
set_option linter.unusedSimpArgs false
set_option linter.unusedVariables false

def grF (l : List Int) : Nat → Int
  | 0 => 0
  | k + 1 => max (grF l k) (atP l k)
def grP (l : List Int) : Int := grF l l.length
theorem grF_ge (l : List Int) : ∀ k : Nat, 0 ≤ grF l k
  | 0 => Int.le_refl 0
  | k + 1 => by have := grF_ge l k; simp only [grF]; omega
theorem grF_le {l : List Int} (hi : I64L l) : ∀ k : Nat, k ≤ l.length → grF l k ≤ 9223372036854775807
  | 0, _ => by simp [grF]
  | k + 1, h => by
    have h1 := grF_le hi k (by omega)
    have h2 := hi (atP l k) (List.mem_of_getElem? (atP_get (by omega)))
    simp only [grF]; omega

set_option maxRecDepth 100000 in
set_option maxHeartbeats 4000000 in
theorem greatest_any (A : Option Addr) (c : Nat) (l : List Int) (w : World) (hl : l.length ≤ 1000) (hL : IntR w (.slice A l.length c) l) :
    Calls Try.prog 27 #[.slice A l.length c] w fun e w' => e = .returned (.int .i64 (grP l)) ∧ w' = w := by
  obtain ⟨n, hn⟩ : ∃ n, n = l.length := ⟨_, rfl⟩
  have HN := Lib.hid hn
  have HL := Lib.hid hL
  have HE : Hid (grP l = grF l n) := Lib.hid (by unfold grP; rw [hn])
  rw [← hn] at hl ⊢
  clear hL hn
  go_enter Try.func27, Try.ntmps27
  go_wp2
  go_loopw [8, 3] (fun vi m wr => ∃ k : Nat, k ≤ n ∧ vi = .int .i64 (k : Int) ∧ m = .int .i64 (grF l k) ∧ w = wr) (fun vi _ _ => n - (intOf vi).toNat)
  case atStart => exact ⟨0, Nat.zero_le _, rfl, rfl, rfl⟩
  case round =>
    obtain ⟨k, hk, rfl, hm, rfl⟩ := hrel
    have HG : Hid (grF l (k + 1) = max (grF l k) (atP l k)) := Lib.hid rfl
    have HQ : Hid (k = n → grF l k = grP l) := Lib.hid (fun e => by rw [HE.out, e])
    obtain ⟨g2, hg2⟩ : ∃ g2, g2 = grF l (k + 1) := ⟨_, rfl⟩
    rw [← hg2] at HG
    have HG2 := Lib.hid hg2
    clear hg2
    obtain ⟨g, hg⟩ : ∃ g, g = grF l k := ⟨_, rfl⟩
    rw [← hg] at HG HQ hm
    clear hg
    subst hm
    by_cases hlt : k < n
    · obtain ⟨b, o, rfl, hc⟩ := int_at HL.out (k := k) (atP_get (by have := HN.out; omega))
      generalize atP l k = x at *
      have i1 : (k : Int) < (n : Int) := by omega
      have HM2 : Hid (g2 = (if g < x then x else g)) := Lib.hid (by rw [HG.out, Int.max_def]; split <;> split <;> omega)
      go_wp2
      go_roundw
      case rel => exact ⟨k + 1, by omega, by go_num, by rw [← HM2.out, HG2.out], trivial⟩
      case measure => simp [intOf]; omega
    · have i1 : ¬ (k : Int) < (n : Int) := by omega
      have e := HQ.out (by omega)
      go_wp2
      go_ret
      exact ⟨by first | rfl | exact ret_int e, rfl⟩
set_option maxRecDepth 100000 in
set_option maxHeartbeats 4000000 in
theorem rgreatest_any (A : Option Addr) (c : Nat) (l : List Int) (w : World) (hl : l.length ≤ 1000) (hL : IntR w (.slice A l.length c) l) :
    Calls Try.prog 28 #[.slice A l.length c] w fun e w' => e = .returned (.int .i64 (grP l)) ∧ w' = w := by
  obtain ⟨n, hn⟩ : ∃ n, n = l.length := ⟨_, rfl⟩
  have HN := Lib.hid hn
  have HL := Lib.hid hL
  have HE : Hid (grP l = grF l n) := Lib.hid (by unfold grP; rw [hn])
  rw [← hn] at hl ⊢
  clear hL hn
  go_enter Try.func28, Try.ntmps28
  go_wp2
  go_loopw [4, 3] (fun vi m wr => ∃ k : Nat, k ≤ n ∧ vi = .int .i64 (k : Int) ∧ m = .int .i64 (grF l k) ∧ w = wr) (fun vi _ _ => n - (intOf vi).toNat)
  case atStart => exact ⟨0, Nat.zero_le _, rfl, rfl, rfl⟩
  case round =>
    obtain ⟨k, hk, rfl, hm, rfl⟩ := hrel
    have HG : Hid (grF l (k + 1) = max (grF l k) (atP l k)) := Lib.hid rfl
    have HQ : Hid (k = n → grF l k = grP l) := Lib.hid (fun e => by rw [HE.out, e])
    obtain ⟨g2, hg2⟩ : ∃ g2, g2 = grF l (k + 1) := ⟨_, rfl⟩
    rw [← hg2] at HG
    have HG2 := Lib.hid hg2
    clear hg2
    obtain ⟨g, hg⟩ : ∃ g, g = grF l k := ⟨_, rfl⟩
    rw [← hg] at HG HQ hm
    clear hg
    subst hm
    by_cases hlt : k < n
    · obtain ⟨b, o, rfl, hc⟩ := int_at HL.out (k := k) (atP_get (by have := HN.out; omega))
      generalize atP l k = x at *
      have i1 : (k : Int) < (n : Int) := by omega
      have i2 : (0 : Int) ≤ (k : Int) := by omega
      have HM2 : Hid (g2 = (if g < x then x else g)) := Lib.hid (by rw [HG.out, Int.max_def]; split <;> split <;> omega)
      go_wp2
      go_roundw
      case rel => exact ⟨k + 1, by omega, by go_num, by rw [← HM2.out, HG2.out], trivial⟩
      case measure => simp [intOf]; omega
    · have i1 : ¬ (k : Int) < (n : Int) := by omega
      have e := HQ.out (by omega)
      go_wp2
      go_ret
      exact ⟨by first | rfl | exact ret_int e, rfl⟩

/-- what find tells -/
def FindR (l : List Int) (i : Int) (w : World) (e : Ending) (w' : World) : Prop :=
  ∃ f t er : Int, e = .returned (.tuple #[.int .i64 f, .int .i64 t, .int .i64 er]) ∧ Below w.heap.size w w' ∧
    (if chkP l ≠ 0 then er = chkP l else if i < 0 ∨ (l.length : Int) ≤ i then er = 2 else er = 0 ∧ ∃ (a b : Nat) (pre : List (Nat × Nat)), f = (a : Int) ∧ t = (b : Int) ∧ Ch l pre a ∧ IsEnd l a b ∧ (a : Int) ≤ i ∧ i < (b : Int))
end Go.Proofs.Ytggbflogndpnoaa
