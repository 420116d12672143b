/- Walks of hasCodes and, where there is nothing to report, of report. -/
import Derived.Test.YtfdbfmhgpegchaaDoorPlaM
namespace Go.Proofs.YtfdbfmhgpegchaaDoor
open Go.RowKit Go.Shelf
set_option linter.unusedSimpArgs false
set_option linter.unusedVariables false

theorem airp_any (s : ByteArray) (w : World) (hs : s.size ≤ maxLen) : Calls Tryd.prog 55 #[.string s] w fun e w' => e = .returned (.bool (capsB s 3)) ∧ w = w' := by
  go_enter Tryd.func55, Tryd.ntmps55
  go_wp2_with (go_at_call 64; refine (capitals_any _ _ _ hs).mono ?_; rintro e w' ⟨rfl, rfl⟩)
  go_ret
  exact ⟨rfl, rfl⟩
theorem land_any (s : ByteArray) (w : World) (hs : s.size ≤ maxLen) : Calls Tryd.prog 56 #[.string s] w fun e w' => e = .returned (.bool (capsB s 2)) ∧ w = w' := by
  go_enter Tryd.func56, Tryd.ntmps56
  go_wp2_with (go_at_call 64; refine (capitals_any _ _ _ hs).mono ?_; rintro e w' ⟨rfl, rfl⟩)
  go_ret
  exact ⟨rfl, rfl⟩
def codesB (a : Air) : Bool := capsB a.code 3 && capsB a.city 3 && capsB a.land 2
set_option maxHeartbeats 1000000 in
theorem codes_any (a : Air) (w : World) (h1 : a.code.size ≤ maxLen) (h2 : a.city.size ≤ maxLen) (h3 : a.land.size ≤ maxLen) : Calls Tryd.prog 40 #[encA a] w fun e w' => e = .returned (.bool (codesB a)) ∧ Below w.heap.size w w' := by
  have C1 := Lib.hid (fun w => airp_any a.code w h1)
  have C2 := Lib.hid (fun w => airp_any a.city w h2)
  have C3 := Lib.hid (fun w => land_any a.land w h3)
  have HB : Hid (codesB a = (capsB a.code 3 && capsB a.city 3 && capsB a.land 2)) := Lib.hid rfl
  cases b1 : capsB a.code 3
  · rw [b1] at C1 HB
    go_enter Tryd.func40, Tryd.ntmps40
    go_wp2_with (go_at_call 55; refine (C1.out _).mono ?_; rintro e w' ⟨rfl, rfl⟩)
    go_ret
    exact ⟨ret_bool (by rw [HB.out]; rfl), bel_alloc _ _⟩
  rw [b1] at C1 HB
  cases b2 : capsB a.city 3
  · rw [b2] at C2 HB
    go_enter Tryd.func40, Tryd.ntmps40
    go_wp2_with (first | (go_at_call 55; with_reducible refine (C1.out _).mono ?_; rintro e w' ⟨rfl, rfl⟩) | (go_at_call 55; with_reducible refine (C2.out _).mono ?_; rintro e w' ⟨rfl, rfl⟩))
    all_goals
      go_ret
      exact ⟨ret_bool (by rw [HB.out]; rfl), bel_alloc _ _⟩
  rw [b2] at C2 HB
  cases b3 : capsB a.land 2 <;> rw [b3] at C3 HB <;>
  · go_enter Tryd.func40, Tryd.ntmps40
    go_wp2_with (first | (go_at_call 56; refine (C3.out _).mono ?_; rintro e w' ⟨rfl, rfl⟩) | (go_at_call 55; with_reducible refine (C1.out _).mono ?_; rintro e w' ⟨rfl, rfl⟩) | (go_at_call 55; with_reducible refine (C2.out _).mono ?_; rintro e w' ⟨rfl, rfl⟩))
    go_ret
    exact ⟨ret_bool (by rw [HB.out]; rfl), bel_alloc _ _⟩

set_option maxHeartbeats 1000000 in
theorem report0_any (v : Value) (kind : ByteArray) (i : Int) (b n c : Nat) (w : World) (hn : n ≤ 10) (hz : ∀ k, k < n → w.cell? ⟨b, k, none⟩ = some (.int .i64 0)) :
    Calls Tryd.prog 38 #[v, .string kind, .int .i64 i, .slice (some ⟨b, 0, none⟩) n c] w fun e w' => e = .returned v ∧ w = w' := by
  have HZ := Lib.hid hz
  clear hz
  go_enter Tryd.func38, Tryd.ntmps38
  go_wp2
  go_loop [0, 13] (fun s0 vi => ∃ k : Nat, s0 = v ∧ k ≤ n ∧ vi = .int .i64 k) (fun _ vi => n - (intOf vi).toNat)
  case atStart => exact ⟨0, rfl, Nat.zero_le _, rfl⟩
  case round =>
    obtain ⟨k, rfl, hk, rfl⟩ := hrel
    by_cases hlt : k < n
    · have i1 : (k : Int) < (n : Int) := by omega
      have z0 := HZ.out k hlt
      go_wp2
      go_round
      case rel => exact ⟨k + 1, rfl, by omega, by go_num⟩
      case measure => simp [intOf]; omega
    · go_wp2
      go_ret
      exact ⟨rfl, rfl⟩

end Go.Proofs.YtfdbfmhgpegchaaDoor
