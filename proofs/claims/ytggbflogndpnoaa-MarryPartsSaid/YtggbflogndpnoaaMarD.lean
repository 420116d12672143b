/- Check whole; the numbers of a group; lists that are changed in a part. -/
import Derived.Test.YtggbflogndpnoaaMarC
namespace Go.Proofs.Ytggbflogndpnoaa
open Go.RowKit Go.Shelf Go.Maps
set_option linter.unusedSimpArgs false
set_option linter.unusedVariables false

/-- numbers of 64 bits -/
def I64L (l : List Int) : Prop := ∀ x ∈ l, -9223372036854775808 ≤ x ∧ x ≤ 9223372036854775807
theorem check_any (A : Option Addr) (c : Nat) (l : List Int) (w : World) (hl : l.length ≤ 1000) (hi : I64L l) (hL : IntR w (.slice A l.length c) l) :
    Calls Try.prog 10 #[.slice A l.length c] w fun e W' => e = .returned (.int .i64 (chkP l)) ∧ Below w.heap.size w W' := callsIn_wide.1 (check_in A c l w hl hi hL)

set_option maxRecDepth 100000 in
set_option maxHeartbeats 4000000 in
/-- the numbers from f to t - 1, in a row of one's own -/
theorem indices_any (f t : Nat) (w : World) (hf : f ≤ t) (ht : t ≤ 1000) :
    Calls Try.prog 22 #[.int .i64 (f : Int), .int .i64 (t : Int)] w fun e w' => ∃ g, e = .returned (.slice (some ⟨g, 0, none⟩) (t - f) (t - f)) ∧ w.heap.size ≤ g ∧ Row w' g (rgP f t) ∧ Below w.heap.size w w' := by
  obtain ⟨n, hn⟩ : ∃ n, n = t - f := ⟨_, rfl⟩
  have htn : (t : Int) = (f : Int) + (n : Int) := by omega
  have hn1 : n ≤ 1000 := by omega
  have hR0 := Row.made w n 3
  rw [← tab_zero n (fun i => ((f + i : Nat) : Int))] at hR0
  have HE : Hid (∀ g W', Row W' g (tab (fun j => if j < n then ((f + j : Nat) : Int) else 0) n) → Row W' g (rgP f t)) := Lib.hid (fun g W' h => by rw [tab_full] at h; unfold rgP; rw [← hn]; exact h)
  have HB0 := Lib.hid (bel_alloc w (.cells (madeCells #[.int .i64 0] n) 3))
  have HG := Lib.hid hR0
  rw [← hn]
  clear hR0
  have w0 : IntKind.i64.wrap ((t : Int) - (f : Int)) = (n : Int) := by rw [IntWalk.i64_in _ (by omega)]; omega
  have w1 : (t : Int) - (f : Int) = (n : Int) := by omega
  clear hn htn hf
  obtain ⟨i0, hi, hz0, hz1, hz2⟩ := info_parts intT
  go_enter Try.func22, Try.ntmps22
  go_upto_region 2 with (at_make; refine wpList_make_row _ rfl _ _ 22 rfl 3 i0 (.int .i64 0) Try.underlying22 hi hz0 hz1 rfl _ _ n rfl rfl (by rw [hz2]; omega) (by omega) ?_)
  clear hi hz0 hz1 hz2
  go_wp2
  obtain ⟨g, hg⟩ : ∃ g, g = w.heap.size := ⟨_, rfl⟩
  have HGG := Lib.hid hg
  rw [← hg] at HG ⊢
  clear hg
  go_loopw [13] (fun vi wr => ∃ k : Nat, k ≤ n ∧ vi = .int .i64 (k : Int) ∧ Hid (Row wr g (tab (fun j => if j < k then ((f + j : Nat) : Int) else 0) n) ∧ Below w.heap.size w wr)) (fun vi _ => n - (intOf vi).toNat)
  case atStart => exact ⟨0, Nat.zero_le _, rfl, Lib.hid ⟨HG.out, HB0.out⟩⟩
  case round =>
    clear HG HB0
    obtain ⟨k, hk, rfl, HR⟩ := hrel
    by_cases hlt : k < n
    · have i1 : (k : Int) < (n : Int) := by omega
      have i2 : (0 : Int) ≤ (k : Int) := by omega
      have d1 := HR.out.1.froz k (by rw [tab_len]; exact hlt)
      have d0 := HR.out.1.cell k (by rw [tab_len]; exact hlt)
      have w2 : IntKind.i64.wrap ((f : Int) + (k : Int)) = (f : Int) + (k : Int) := IntWalk.i64_in _ (by omega)
      have HN2 : Hid (Row (wr.setCell ⟨g, k, none⟩ (.int .i64 ((f : Int) + (k : Int)))) g (tab (fun j => if j < k + 1 then ((f + j : Nat) : Int) else 0) n) ∧ Below w.heap.size w (wr.setCell ⟨g, k, none⟩ (.int .i64 ((f : Int) + (k : Int))))) := Lib.hid (by
        have h := HR.out.1.set k (by rw [tab_len]; exact hlt) ((f : Int) + (k : Int))
        rw [show (f : Int) + (k : Int) = (fun j : Nat => ((f + j : Nat) : Int)) k by show _ = ((f + k : Nat) : Int); omega, tab_put n k _ hlt] at h
        refine ⟨?_, HR.out.2.setCell (p := ⟨g, k, none⟩) (by rw [HGG.out]; exact Nat.le_refl _) _⟩
        rw [show (f : Int) + (k : Int) = (fun j : Nat => ((f + j : Nat) : Int)) k by show _ = ((f + k : Nat) : Int); omega]
        exact h)
      go_wp2
      go_roundw
      case rel => exact ⟨k + 1, by omega, by go_num, HN2⟩
      case measure => simp [intOf]; omega
    · have i1 : ¬ (k : Int) < (n : Int) := by omega
      have e : k = n := by omega
      have HF : Hid (Row wr g (rgP f t) ∧ Below w.heap.size w wr) := Lib.hid ⟨HE.out g wr (by rw [← e]; rw [← e] at HR; exact HR.out.1), HR.out.2⟩
      clear e
      go_wp2
      go_ret
      exact ⟨g, rfl, by rw [HGG.out]; exact Nat.le_refl _, HF.out⟩
end Go.Proofs.Ytggbflogndpnoaa
