/- The library's stable sort, walked: swapRangeCmpFunc and rotateCmpFunc change the places that they should. -/
import Derived.Test.YtalnocdgmcchaaaDoorSortP
import Derived.Test.YtalnocdgmcchaaaDoorProg
import Derived.Shelf.SlSortCmp.Insertion1
import Derived.Lib.Hide
namespace Go.Proofs.YtalnocdgmcchaaaDoor
open Go.Shelf Go.RowKit Go.Lib Go.Sort
set_option linter.unusedSimpArgs false
set_option linter.unusedVariables false
variable {α : Type} [Inhabited α]

/-- a call that leaves the row with d' in it -/
def Left (enc : α → Value) (w0 : World) (blk off : Nat) (p : Array α → Prop) (e : Ending) (w' : World) : Prop := e = .returned (.tuple #[]) ∧ ∃ d', p d' ∧ SW enc w0 blk off d' w'

set_option maxHeartbeats 4000000 in
set_option maxRecDepth 100000 in
theorem swapRange_s (enc : α → Value) (fv : Value) (blk off cap a b n : Nat) (d0 d : Array α) (w0 w : World) (R : Row1 enc w0 blk off d0) (hs : d0.size = d.size) (S : SW enc w0 blk off d w)
    (hab : a + n ≤ b) (hb : b + n ≤ d.size) (hsz : d.size < 4611686018427387904) :
    Calls Tryd.prog 82 #[.slice (some ⟨blk, off, none⟩) d.size cap, .int .i64 a, .int .i64 b, .int .i64 n, fv] w
      (Left enc w0 blk off fun d' => d'.size = d.size ∧ (∀ k, d'[k]! = swrAt a b n d k) ∧ PermIn a (b + n) d d') := by
  have mixed : Tryd.prog.follows .mixedOrders = true := by kernel_rfl
  have hcl0 := R.hO.cells
  simp only [Value.cells] at hcl0
  have hst := R.hO.store Tryd.prog
  have S0 : Aside (SW enc w0 blk off d w) := S
  clear S
  go_enter Tryd.func82, Tryd.ntmps82
  go_wp2
  go_loopg [10] n (fun g1 vi wr => ∃ (i : Nat) (dk : Array α), vi = .int .i64 i ∧ i ≤ n ∧ n - i ≤ g1 ∧ dk.size = d.size ∧ Aside (SW enc w0 blk off dk wr) ∧ Hid (∀ k, dk[k]! = swrAt a b i d k) ∧ Hid (PermIn a (b + n) d dk))
  case atStart => exact ⟨0, d, by go_num, by omega, by omega, rfl, S0, Lib.hid (fun k => (swr_zero a b d k).symm), Lib.hid (permIn_refl _ _ _)⟩
  case round =>
    clear S0
    obtain ⟨i, dk, rfl, hin, hg1, hsk, S1, HA, HP⟩ := hrel
    by_cases hlt : i < n
    · have hltz : (i : Int) < (n : Int) := by omega
      go_wp2_with fail
      obtain ⟨iN, hiN⟩ : ∃ q, q = a + i := ⟨_, rfl⟩
      obtain ⟨jN, hjN⟩ : ∃ q, q = b + i := ⟨_, rfl⟩
      have ea : ((a : Int) + (i : Int)).toNat = iN := by omega
      have pa : (0 : Int) ≤ (a : Int) + (i : Int) := by omega
      have ba : (a : Int) + (i : Int) < (d.size : Int) := by omega
      have ra : IntKind.i64.wrap ((a : Int) + (i : Int)) = (a : Int) + (i : Int) := by rw [IntKind.wrap_i64]; omega
      have ec : ((b : Int) + (i : Int)).toNat = jN := by omega
      have pc : (0 : Int) ≤ (b : Int) + (i : Int) := by omega
      have bc : (b : Int) + (i : Int) < (d.size : Int) := by omega
      have rc : IntKind.i64.wrap ((b : Int) + (i : Int)) = (b : Int) + (i : Int) := by rw [IntKind.wrap_i64]; omega
      obtain ⟨x, hx⟩ : ∃ x, x = dk[a + i]! := ⟨_, rfl⟩
      obtain ⟨y, hy⟩ : ∃ x, x = dk[b + i]! := ⟨_, rfl⟩
      have S3 : Aside (SW enc w0 blk off (swp dk (a + i) (b + i)) ((wr.setCell ⟨blk, off + iN, none⟩ (enc y)).setCell ⟨blk, off + jN, none⟩ (enc x)).drew) := by
        rw [hiN, hjN, hx, hy]; exact S1.out.swapped R (a + i) (b + i) (by omega) (by omega)
      have c1 := S1.out.c1 R (by omega) (a + i) (by omega)
      have c2 := S1.out.c1 R (by omega) (b + i) (by omega)
      have f1 := S1.out.f1 R (by omega) (a + i) (by omega)
      have f2 := S1.out.f1 R (by omega) (b + i) (by omega)
      obtain ⟨u, c3⟩ := S1.out.c2 R (by omega) (a + i) (b + i) (by omega) (by omega) (enc y)
      rw [← hjN, ← hiN] at c3
      rw [← hx, ← hiN] at c1
      rw [← hy, ← hjN] at c2
      rw [← hiN] at f1
      rw [← hjN] at f2
      clear S1 hx hy hiN hjN
      go_wp2_with fail
      go_big_region_o
      clear c1 c2 c3 f1 f2
      generalize ((wr.setCell ⟨blk, off + iN, none⟩ (enc y)).setCell ⟨blk, off + jN, none⟩ (enc x)).drew = w3 at S3 ⊢
      clear ea ec
      go_wp2
      go_roundg (n - (i + 1))
      case measure => omega
      case rel => exact ⟨i + 1, swp dk (a + i) (b + i), by go_num, by omega, by omega, by rw [size_swp]; exact hsk, S3, Lib.hid (swr_step a b i d dk (by omega) (by omega) hsk HA.out),
        Lib.hid (permIn_trans _ _ _ _ _ HP.out (swp_permIn dk a (b + n) (a + i) (b + i) (by omega) (by omega) (by omega) (by omega) (by omega)))⟩
    · have hltz : ¬ (i : Int) < (n : Int) := by omega
      obtain rfl : i = n := by omega
      go_wp2
      go_end0
      exact ⟨rfl, dk, ⟨hsk, HA.out, HP.out⟩, S1.out⟩

set_option maxHeartbeats 4000000 in
set_option maxRecDepth 100000 in
theorem rotate_s (enc : α → Value) (fv : Value) (blk off cap a m b : Nat) (d0 d : Array α) (w0 w : World) (R : Row1 enc w0 blk off d0) (hs : d0.size = d.size) (S : SW enc w0 blk off d w)
    (ham : a < m) (hmb : m < b) (hb : b ≤ d.size) (hsz : d.size < 4611686018427387904) :
    Calls Tryd.prog 74 #[.slice (some ⟨blk, off, none⟩) d.size cap, .int .i64 a, .int .i64 m, .int .i64 b, fv] w
      (Left enc w0 blk off fun d' => d'.size = d.size ∧ (∀ k, d'[k]! = rotAt a m b d k) ∧ PermIn a b d d') := by
  have S0 : Aside (SW enc w0 blk off d w) := S
  clear S
  go_enter Tryd.func74, Tryd.ntmps74
  go_wp2
  go_loopg [10, 11] (b - a) (fun g1 vi vj wr => ∃ (i j : Nat) (dk : Array α), vi = .int .i64 i ∧ vj = .int .i64 j ∧ 0 < i ∧ 0 < j ∧ i ≤ m - a ∧ j ≤ b - m ∧ i + j ≤ g1 ∧ dk.size = d.size ∧ Aside (SW enc w0 blk off dk wr) ∧ Hid (∀ k, rotAt (m - i) m (m + j) dk k = rotAt a m b d k) ∧ Hid (PermIn a b d dk))
  case atStart => exact ⟨m - a, b - m, d, by first | rfl | (congr 1; omega), by first | rfl | (congr 1; omega), by omega, by omega, by omega, by omega, by omega, rfl, S0, Lib.hid (fun k => by rw [show m - (m - a) = a by omega, show m + (b - m) = b by omega]), Lib.hid (permIn_refl _ _ _)⟩
  case round =>
    clear S0
    obtain ⟨i, j, dk, rfl, rfl, hi0, hj0, him, hjm, hg1, hsk, S1, HA, HP⟩ := hrel
    have Hs := Lib.hid hsk
    have hsk2 : b ≤ dk.size := by omega
    have hsk3 : dk.size < 4611686018427387904 := by omega
    have hd0 : Hid (d0.size = dk.size) := Lib.hid (by omega)
    have hmi : (m : Int) - (i : Int) = ((m - i : Nat) : Int) := by omega
    have hmji : (m : Int) + (j : Int) - (i : Int) = ((m + j - i : Nat) : Int) := by omega
    have Hmi := Lib.hid hmi
    have Hmji := Lib.hid hmji
    have er : dk.size = d.size := hsk
    clear hmi hmji hsk
    rcases Nat.lt_trichotomy i j with hij | hij | hij
    · have h1 : ((i : Int) != (j : Int)) = true := by simp; omega
      have h2 : ¬ (i : Int) > (j : Int) := by omega
      have C := fun w' (S : SW enc w0 blk off dk w') => swapRange_s enc fv blk off cap (m - i) (m + j - i) i d0 dk w0 w' R hd0.out S (by omega) (by omega) hsk3
      rw [er] at C
      rw [← Hmi.out, ← Hmji.out] at C
      have C' := Lib.hid C
      clear C er
      go_wp2_with ((go_at_call 82; refine (C'.out _ S1.out).mono ?_; rintro e w' ⟨rfl, d2, ⟨q1, q2, q3⟩, S2⟩; have Q1 := Lib.hid q1; have Q2 := Lib.hid q2; have Q3 := Lib.hid q3; have T2 : Aside _ := S2; clear q1 q2 q3 S2))
      go_roundg (i + (j - i))
      case measure => omega
      case rel => exact ⟨i, j - i, d2, rfl, by first | rfl | (congr 1; omega), hi0, by omega, him, by omega, Nat.le_refl _, Q1.out, T2, Lib.hid (fun k => by rw [rot_less m i j dk d2 (by omega) hij Q2.out, HA.out]), Lib.hid (permIn_trans _ _ _ _ _ HP.out (permIn_mono _ _ (m - i) (m + j - i + i) a b (by omega) (by omega) hsk2 Q3.out))⟩
    · subst hij
      have C := fun w' (S : SW enc w0 blk off dk w') => swapRange_s enc fv blk off cap (m - i) m i d0 dk w0 w' R hd0.out S (by omega) (by omega) hsk3
      rw [er] at C
      rw [← Hmi.out] at C
      have C' := Lib.hid C
      clear C er
      go_wp2_with ((go_at_call 82; refine (C'.out _ S1.out).mono ?_; rintro e w' ⟨rfl, d2, ⟨q1, q2, q3⟩, S2⟩; have Q1 := Lib.hid q1; have Q2 := Lib.hid q2; have Q3 := Lib.hid q3; have T2 : Aside _ := S2; clear q1 q2 q3 S2))
      go_end0
      exact ⟨rfl, d2, ⟨Q1.out, fun k => by rw [rot_last m i dk d2 (by omega) Q2.out, HA.out], permIn_trans _ _ _ _ _ HP.out (permIn_mono _ _ (m - i) (m + i) a b (by omega) (by omega) hsk2 Q3.out)⟩, T2.out⟩
    · have h1 : ((i : Int) != (j : Int)) = true := by simp; omega
      have h2 : (i : Int) > (j : Int) := by omega
      have C := fun w' (S : SW enc w0 blk off dk w') => swapRange_s enc fv blk off cap (m - i) m j d0 dk w0 w' R hd0.out S (by omega) (by omega) hsk3
      rw [er] at C
      rw [← Hmi.out] at C
      have C' := Lib.hid C
      clear C er
      go_wp2_with ((go_at_call 82; refine (C'.out _ S1.out).mono ?_; rintro e w' ⟨rfl, d2, ⟨q1, q2, q3⟩, S2⟩; have Q1 := Lib.hid q1; have Q2 := Lib.hid q2; have Q3 := Lib.hid q3; have T2 : Aside _ := S2; clear q1 q2 q3 S2))
      go_roundg (i - j + j)
      case measure => omega
      case rel => exact ⟨i - j, j, d2, by first | rfl | (congr 1; omega), rfl, by omega, hj0, by omega, by omega, Nat.le_refl _, Q1.out, T2, Lib.hid (fun k => by rw [rot_more m i j dk d2 (by omega) hij Q2.out, HA.out]), Lib.hid (permIn_trans _ _ _ _ _ HP.out (permIn_mono _ _ (m - i) (m + j) a b (by omega) (by omega) hsk2 Q3.out))⟩
end Go.Proofs.YtalnocdgmcchaaaDoor
