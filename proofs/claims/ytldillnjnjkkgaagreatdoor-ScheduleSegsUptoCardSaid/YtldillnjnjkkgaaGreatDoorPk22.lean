/- Words and walks that the laws below ask: SrtA, SrtB, SrtC, SrtD, SrtE, SrtF. -/
import Derived.Test.YtldillnjnjkkgaaGreatDoorProg
import Derived.Shelf.SlSortCmp.Insertion1
import Derived.Lib.Hide
import Derived.Deep.CutRange
import Derived.Shelf.SlSortFuncK.ComposeK
import Derived.Test.YtldillnjnjkkgaaGreatDoorPk21
/- The library's stable sort, walked: swapRangeCmpFunc and rotateCmpFunc change the places that they should. -/
namespace Go.Proofs.YtldillnjnjkkgaaGreatDoor
open Go.Shelf Go.RowKit Go.Lib Go.Sort
set_option linter.unusedSimpArgs false
set_option linter.unusedVariables false

/-- a call that leaves the row with d' in it -/
def Left (w0 : World) (blk off : Nat) (p : Array Dt → Prop) (e : Ending) (w' : World) : Prop := e = .returned (.tuple #[]) ∧ ∃ d', p d' ∧ SWK encDt 8 w0 blk off d' w'

set_option maxHeartbeats 16000000 in
set_option maxRecDepth 100000 in
theorem swapRange_s (fv : Value) (blk off cap a b n : Nat) (d0 d : Array Dt) (w0 w : World) (R : RowK encDt 8 w0 blk off d0) (hs : d0.size = d.size) (S : SWK encDt 8 w0 blk off d w)
    (hab : a + n ≤ b) (hb : b + n ≤ d.size) (hsz : d.size < 4611686018427387904) :
    Calls Tryz.prog 278 #[.slice (some ⟨blk, off, none⟩) d.size cap, .int .i64 a, .int .i64 b, .int .i64 n, fv] w
      (Left w0 blk off fun d' => d'.size = d.size ∧ (∀ k, d'[k]! = swrAt a b n d k) ∧ PermIn a (b + n) d d') := by
  have mixed : Tryz.prog.follows .mixedOrders = true := by kernel_rfl
  have S0 : Aside (SWK encDt 8 w0 blk off d w) := S
  clear S
  go_enter Tryz.func278, Tryz.ntmps278
  go_wp2
  go_loopg [10] n (fun g1 vi wr => ∃ (i : Nat) (dk : Array Dt), vi = .int .i64 i ∧ i ≤ n ∧ n - i ≤ g1 ∧ dk.size = d.size ∧ Aside (SWK encDt 8 w0 blk off dk wr) ∧ Hid (∀ k, dk[k]! = swrAt a b i d k) ∧ Hid (PermIn a (b + n) d dk))
  case atStart => exact ⟨0, d, by go_num, by omega, by omega, rfl, S0, Lib.hid (fun k => (swr_zero a b d k).symm), Lib.hid (permIn_refl _ _ _)⟩
  case round =>
    clear S0
    obtain ⟨i, dk, rfl, hin, hg1, hsk, S1, HA, HP⟩ := hrel
    by_cases hlt : i < n
    · have hltz : (i : Int) < (n : Int) := by omega
      go_wp2_with fail
      obtain ⟨iN, hiN⟩ : ∃ q, q = a + i := ⟨_, rfl⟩
      obtain ⟨jN, hjN⟩ : ∃ q, q = b + i := ⟨_, rfl⟩
      have ea : ((a : Int) + (i : Int)).toNat = iN := by omega
      have pa : (0 : Int) ≤ (a : Int) + (i : Int) := by omega
      have ba : (a : Int) + (i : Int) < (d.size : Int) := by omega
      have ra : IntKind.i64.wrap ((a : Int) + (i : Int)) = (a : Int) + (i : Int) := by rw [IntKind.wrap_i64]; omega
      have ec : ((b : Int) + (i : Int)).toNat = jN := by omega
      have pc : (0 : Int) ≤ (b : Int) + (i : Int) := by omega
      have bc : (b : Int) + (i : Int) < (d.size : Int) := by omega
      have rc : IntKind.i64.wrap ((b : Int) + (i : Int)) = (b : Int) + (i : Int) := by rw [IntKind.wrap_i64]; omega
      obtain ⟨x, hx⟩ : ∃ x, x = dk[a + i]! := ⟨_, rfl⟩
      obtain ⟨y, hy⟩ : ∃ x, x = dk[b + i]! := ⟨_, rfl⟩
      have T3 : Hid _ := Lib.hid (dt_sw2 S1.out R (a + i) (b + i) (by omega) (by omega) x y hx hy iN jN (by omega) (by omega))
      obtain ⟨c10, c11, c12, c13, c14, c15, c16, c17⟩ := dt_c8 S1.out R (by omega) (a + i) (by omega)
      obtain ⟨c20, c21, c22, c23, c24, c25, c26, c27⟩ := dt_c8 S1.out R (by omega) (b + i) (by omega)
      obtain ⟨f10, f11, f12, f13, f14, f15, f16, f17⟩ := dt_f8 S1.out R (by omega) (a + i) (by omega)
      obtain ⟨f20, f21, f22, f23, f24, f25, f26, f27⟩ := dt_f8 S1.out R (by omega) (b + i) (by omega)
      rw [← hx] at c10 c11 c12 c13 c14 c15 c16 c17
      rw [← hy] at c20 c21 c22 c23 c24 c25 c26 c27
      try simp only [← hiN] at f10 f11 f12 f13 f14 f15 f16 f17 f20 f21 f22 f23 f24 f25 f26 f27 c10 c11 c12 c13 c14 c15 c16 c17 c20 c21 c22 c23 c24 c25 c26 c27
      try simp only [← hjN] at f10 f11 f12 f13 f14 f15 f16 f17 f20 f21 f22 f23 f24 f25 f26 f27 c10 c11 c12 c13 c14 c15 c16 c17 c20 c21 c22 c23 c24 c25 c26 c27
      clear S1 hx hy hiN hjN
      go_wp2_with fail
      go_big_region_o
      clear f10 f11 f12 f13 f14 f15 f16 f17 f20 f21 f22 f23 f24 f25 f26 f27 c10 c11 c12 c13 c14 c15 c16 c17 c20 c21 c22 c23 c24 c25 c26 c27
      generalize hw3 : ((((((((((((((((wr.setCell ⟨blk, off + iN * 8, none⟩ (.string y.car)).setCell ⟨blk, off + iN * 8 + 1, none⟩ (.int .i64 y.num)).setCell ⟨blk, off + iN * 8 + 2, none⟩ (.int .i64 y.day)).setCell ⟨blk, off + iN * 8 + 3, none⟩ (.string y.f)).setCell ⟨blk, off + iN * 8 + 4, none⟩ (.string y.t)).setCell ⟨blk, off + iN * 8 + 5, none⟩ (.int .i64 y.dep)).setCell ⟨blk, off + iN * 8 + 6, none⟩ (.int .i64 y.arr)).setCell ⟨blk, off + iN * 8 + 7, none⟩ (.string y.eq)).setCell ⟨blk, off + jN * 8, none⟩ (.string x.car)).setCell ⟨blk, off + jN * 8 + 1, none⟩ (.int .i64 x.num)).setCell ⟨blk, off + jN * 8 + 2, none⟩ (.int .i64 x.day)).setCell ⟨blk, off + jN * 8 + 3, none⟩ (.string x.f)).setCell ⟨blk, off + jN * 8 + 4, none⟩ (.string x.t)).setCell ⟨blk, off + jN * 8 + 5, none⟩ (.int .i64 x.dep)).setCell ⟨blk, off + jN * 8 + 6, none⟩ (.int .i64 x.arr)).setCell ⟨blk, off + jN * 8 + 7, none⟩ (.string x.eq)) = w3 at *
      have S3 : Aside (SWK encDt 8 w0 blk off (swp dk (a + i) (b + i)) w3.drew) := T3.out _ (by rw [← hw3]; rfl)
      clear hw3 T3
      clear ea ec
      go_wp2
      go_roundg (n - (i + 1))
      case measure => omega
      case rel => exact ⟨i + 1, swp dk (a + i) (b + i), by go_num, by omega, by omega, by rw [size_swp]; exact hsk, S3, Lib.hid (swr_step a b i d dk (by omega) (by omega) hsk HA.out),
        Lib.hid (permIn_trans _ _ _ _ _ HP.out (swp_permIn dk a (b + n) (a + i) (b + i) (by omega) (by omega) (by omega) (by omega) (by omega)))⟩
    · have hltz : ¬ (i : Int) < (n : Int) := by omega
      obtain rfl : i = n := by omega
      go_wp2
      go_end0
      exact ⟨rfl, dk, ⟨hsk, HA.out, HP.out⟩, S1.out⟩

set_option maxHeartbeats 16000000 in
set_option maxRecDepth 100000 in
theorem rotate_s (fv : Value) (blk off cap a m b : Nat) (d0 d : Array Dt) (w0 w : World) (R : RowK encDt 8 w0 blk off d0) (hs : d0.size = d.size) (S : SWK encDt 8 w0 blk off d w)
    (ham : a < m) (hmb : m < b) (hb : b ≤ d.size) (hsz : d.size < 4611686018427387904) :
    Calls Tryz.prog 260 #[.slice (some ⟨blk, off, none⟩) d.size cap, .int .i64 a, .int .i64 m, .int .i64 b, fv] w
      (Left w0 blk off fun d' => d'.size = d.size ∧ (∀ k, d'[k]! = rotAt a m b d k) ∧ PermIn a b d d') := by
  have S0 : Aside (SWK encDt 8 w0 blk off d w) := S
  clear S
  go_enter Tryz.func260, Tryz.ntmps260
  go_wp2
  go_loopg [10, 11] (b - a) (fun g1 vi vj wr => ∃ (i j : Nat) (dk : Array Dt), vi = .int .i64 i ∧ vj = .int .i64 j ∧ 0 < i ∧ 0 < j ∧ i ≤ m - a ∧ j ≤ b - m ∧ i + j ≤ g1 ∧ dk.size = d.size ∧ Aside (SWK encDt 8 w0 blk off dk wr) ∧ Hid (∀ k, rotAt (m - i) m (m + j) dk k = rotAt a m b d k) ∧ Hid (PermIn a b d dk))
  case atStart => exact ⟨m - a, b - m, d, by first | rfl | (congr 1; omega), by first | rfl | (congr 1; omega), by omega, by omega, by omega, by omega, by omega, rfl, S0, Lib.hid (fun k => by rw [show m - (m - a) = a by omega, show m + (b - m) = b by omega]), Lib.hid (permIn_refl _ _ _)⟩
  case round =>
    clear S0
    obtain ⟨i, j, dk, rfl, rfl, hi0, hj0, him, hjm, hg1, hsk, S1, HA, HP⟩ := hrel
    have Hs := Lib.hid hsk
    have hsk2 : b ≤ dk.size := by omega
    have hsk3 : dk.size < 4611686018427387904 := by omega
    have hd0 : Hid (d0.size = dk.size) := Lib.hid (by omega)
    have hmi : (m : Int) - (i : Int) = ((m - i : Nat) : Int) := by omega
    have hmji : (m : Int) + (j : Int) - (i : Int) = ((m + j - i : Nat) : Int) := by omega
    have Hmi := Lib.hid hmi
    have Hmji := Lib.hid hmji
    have er : dk.size = d.size := hsk
    clear hmi hmji hsk
    rcases Nat.lt_trichotomy i j with hij | hij | hij
    · have h1 : ((i : Int) != (j : Int)) = true := by simp; omega
      have h2 : ¬ (i : Int) > (j : Int) := by omega
      have C := fun w' (S : SWK encDt 8 w0 blk off dk w') => swapRange_s fv blk off cap (m - i) (m + j - i) i d0 dk w0 w' R hd0.out S (by omega) (by omega) hsk3
      rw [er] at C
      rw [← Hmi.out, ← Hmji.out] at C
      have C' := Lib.hid C
      clear C er
      go_wp2_with ((go_at_call 278; refine (C'.out _ S1.out).mono ?_; rintro e w' ⟨rfl, d2, ⟨q1, q2, q3⟩, S2⟩; have Q1 := Lib.hid q1; have Q2 := Lib.hid q2; have Q3 := Lib.hid q3; have T2 : Aside _ := S2; clear q1 q2 q3 S2))
      go_roundg (i + (j - i))
      case measure => omega
      case rel => exact ⟨i, j - i, d2, rfl, by first | rfl | (congr 1; omega), hi0, by omega, him, by omega, Nat.le_refl _, Q1.out, T2, Lib.hid (fun k => by rw [rot_less m i j dk d2 (by omega) hij Q2.out, HA.out]), Lib.hid (permIn_trans _ _ _ _ _ HP.out (permIn_mono _ _ (m - i) (m + j - i + i) a b (by omega) (by omega) hsk2 Q3.out))⟩
    · subst hij
      have C := fun w' (S : SWK encDt 8 w0 blk off dk w') => swapRange_s fv blk off cap (m - i) m i d0 dk w0 w' R hd0.out S (by omega) (by omega) hsk3
      rw [er] at C
      rw [← Hmi.out] at C
      have C' := Lib.hid C
      clear C er
      go_wp2_with ((go_at_call 278; refine (C'.out _ S1.out).mono ?_; rintro e w' ⟨rfl, d2, ⟨q1, q2, q3⟩, S2⟩; have Q1 := Lib.hid q1; have Q2 := Lib.hid q2; have Q3 := Lib.hid q3; have T2 : Aside _ := S2; clear q1 q2 q3 S2))
      go_end0
      exact ⟨rfl, d2, ⟨Q1.out, fun k => by rw [rot_last m i dk d2 (by omega) Q2.out, HA.out], permIn_trans _ _ _ _ _ HP.out (permIn_mono _ _ (m - i) (m + i) a b (by omega) (by omega) hsk2 Q3.out)⟩, T2.out⟩
    · have h1 : ((i : Int) != (j : Int)) = true := by simp; omega
      have h2 : (i : Int) > (j : Int) := by omega
      have C := fun w' (S : SWK encDt 8 w0 blk off dk w') => swapRange_s fv blk off cap (m - i) m j d0 dk w0 w' R hd0.out S (by omega) (by omega) hsk3
      rw [er] at C
      rw [← Hmi.out] at C
      have C' := Lib.hid C
      clear C er
      go_wp2_with ((go_at_call 278; refine (C'.out _ S1.out).mono ?_; rintro e w' ⟨rfl, d2, ⟨q1, q2, q3⟩, S2⟩; have Q1 := Lib.hid q1; have Q2 := Lib.hid q2; have Q3 := Lib.hid q3; have T2 : Aside _ := S2; clear q1 q2 q3 S2))
      go_roundg (i - j + j)
      case measure => omega
      case rel => exact ⟨i - j, j, d2, by first | rfl | (congr 1; omega), rfl, by omega, hj0, by omega, by omega, Nat.le_refl _, Q1.out, T2, Lib.hid (fun k => by rw [rot_more m i j dk d2 (by omega) hij Q2.out, HA.out]), Lib.hid (permIn_trans _ _ _ _ _ HP.out (permIn_mono _ _ (m - i) (m + j) a b (by omega) (by omega) hsk2 Q3.out))⟩
end Go.Proofs.YtldillnjnjkkgaaGreatDoor

/- The library's stable sort, walked: symMergeCmpFunc makes one sorted row of two. -/
namespace Go.Proofs.YtldillnjnjkkgaaGreatDoor
open Go.Shelf Go.RowKit Go.Lib Go.Sort
set_option linter.unusedSimpArgs false
set_option linter.unusedVariables false

theorem test_lt {cf : Dt → Dt → Int} {tot : Dt → Dt → Bool} {lo : Dt → Dt → Prop} (O : Ordd (ltOf cf) tot lo) {x y : Dt} (h : lo x y) : decide (cf y x < 0) = tot y x := O.key x y h

set_option maxHeartbeats 16000000 in
set_option maxRecDepth 100000 in
theorem symMerge_left (cf : Dt → Dt → Int) (tot : Dt → Dt → Bool) (lo : Dt → Dt → Prop) (O : Ordd (ltOf cf) tot lo) (g : Nat) (cb : Array Value) (blk off cap a m b : Nat) (d0 d : Array Dt) (w0 w : World)
    (eg : ∀ args w, (callFunc g args).run Tryz.prog w = .ok (.enter g args) w) (hcmp : CmpLays Tryz.prog g cb encDt 8 cf blk off d0.size w0) (R : RowK encDt 8 w0 blk off d0)
    (hs : d0.size = d.size) (S : SWK encDt 8 w0 blk off d w) (hm : m = a + 1) (hmb : m < b) (hb : b ≤ d.size) (hsz : d.size < 4611686018427387904) (H : Halves tot lo a m b d) :
    Calls Tryz.prog 222 #[.slice (some ⟨blk, off, none⟩) d.size cap, .int .i64 a, .int .i64 m, .int .i64 b, .func (.func g) #[] cb] w
      (Left w0 blk off fun d' => PermIn a b d d' ∧ SortedIn tot a b d') := by
  have mixed : Tryz.prog.follows .mixedOrders = true := by kernel_rfl
  have S0 : Aside (SWK encDt 8 w0 blk off d w) := S
  have HC : Aside _ := hcmp
  have HH := Lib.hid H
  clear S hcmp H
  have hm1 : ((m : Int) - (a : Int) == 1) = true := by rw [beq_iff_eq]; omega
  have hm2 : a + 1 ≤ m := by omega
  have hm3 : m ≤ a + 1 := by omega
  clear hm
  go_enter Tryz.func222, Tryz.ntmps222
  go_wp2
  go_loopg [10, 11, 12] (b - a) (fun g1 vi vj vh wr => ∃ (i j : Nat), vi = .int .i64 i ∧ vj = .int .i64 j ∧ m ≤ i ∧ i ≤ j ∧ j ≤ b ∧ j - i ≤ g1 ∧ Aside (SWK encDt 8 w0 blk off d wr) ∧ Hid (i = m ∨ tot d[i - 1]! d[a]! = true) ∧ Hid (j = b ∨ tot d[j]! d[a]! = false))
  case atStart => exact ⟨m, b, rfl, rfl, by omega, by omega, by omega, by omega, S0, Lib.hid (Or.inl rfl), Lib.hid (Or.inl rfl)⟩
  case round =>
    clear S0
    obtain ⟨i, j, rfl, rfl, hai, hij, hjb, hg1, S1, HL, HR⟩ := hrel
    by_cases hlt : i < j
    · have hltz : (i : Int) < (j : Int) := by omega
      obtain ⟨h, hh⟩ : ∃ h : Nat, h = (i + j) / 2 := ⟨_, rfl⟩
      have hk := test_lt O (HH.out.asc a h (by omega) (by omega) (by omega) (by omega))
      have h1 : i ≤ h := by omega
      have h2 : h < j := by omega
      have ea : (((i : Int) + (j : Int)) / 2).toNat = h := by omega
      have pa : (0 : Int) ≤ ((i : Int) + (j : Int)) / 2 := by omega
      have ba : ((i : Int) + (j : Int)) / 2 < (d.size : Int) := by omega
      have bc : (a : Int) < (d.size : Int) := by omega
      obtain ⟨l10, l11, l12, l13, l14, l15, l16, l17⟩ := dt_cl S1.out R (by omega) h (by omega)
      obtain ⟨l20, l21, l22, l23, l24, l25, l26, l27⟩ := dt_cl S1.out R (by omega) a (by omega)
      obtain ⟨x, hx⟩ : ∃ x, x = d[h]! := ⟨_, rfl⟩
      obtain ⟨y, hy⟩ : ∃ x, x = d[a]! := ⟨_, rfl⟩
      rw [← hx] at l10 l11 l12 l13 l14 l15 l16 l17
      rw [← hy] at l20 l21 l22 l23 l24 l25 l26 l27
      have hc := dt_cmp S1.out HC.out (by omega) x y
      cases hv : tot d[h]! d[a]!
      · have hd1 : decide (cf x y < 0) = false := by rw [hx, hy, hk]; exact hv
        have hd2 : ¬ cf x y < 0 := of_decide_eq_false hd1
        have HV := Lib.hid hv
        have Heh := Lib.hid ea
        clear hx hy hh hv hk
        go_wp2_with fail
        go_quiet_grown (first | (go_at_fn g; refine Calls.grown_of (hc _ _)))
        have S2 : Aside (SWK encDt 8 w0 blk off d (grow (wr.drewN nq) osq)) := S1.out.grown nq osq
        clear l10 l11 l12 l13 l14 l15 l16 l17 l20 l21 l22 l23 l24 l25 l26 l27 hc S1
        generalize grow (wr.drewN nq) osq = w2 at S2 ⊢
        clear nq osq
        clear ea
        go_wp2
        go_roundg (h - i)
        case measure => omega
        case rel => exact ⟨i, h, rfl, (by congr 1; have := Heh.out; omega), by omega, by omega, by omega, by omega, S2, HL, Lib.hid (Or.inr HV.out)⟩
      · have hd1 : decide (cf x y < 0) = true := by rw [hx, hy, hk]; exact hv
        have hd2 : cf x y < 0 := of_decide_eq_true hd1
        have HV := Lib.hid hv
        have Heh := Lib.hid ea
        clear hx hy hh hv hk
        go_wp2_with fail
        go_quiet_grown (first | (go_at_fn g; refine Calls.grown_of (hc _ _)))
        have S2 : Aside (SWK encDt 8 w0 blk off d (grow (wr.drewN nq) osq)) := S1.out.grown nq osq
        clear l10 l11 l12 l13 l14 l15 l16 l17 l20 l21 l22 l23 l24 l25 l26 l27 hc S1
        generalize grow (wr.drewN nq) osq = w2 at S2 ⊢
        clear nq osq
        clear ea
        go_wp2
        go_roundg (j - (h + 1))
        case measure => omega
        case rel => exact ⟨h + 1, j, (by congr 1; have := Heh.out; omega), rfl, by omega, by omega, by omega, by omega, S2, Lib.hid (Or.inr (by simpa using HV.out)), HR⟩
    · have hltz : ¬ (i : Int) < (j : Int) := by omega
      obtain rfl : i = j := by omega
      have hi0 : IntKind.i64.wrap ((i : Int) - 1) = (i : Int) - 1 := by rw [IntKind.wrap_i64]; omega
      go_wp2
      go_loopg [13] (i - 1 - a) (fun g1 vk wr => ∃ (k : Nat) (dk : Array Dt), vk = .int .i64 k ∧ a ≤ k ∧ k + 1 ≤ i ∧ i - 1 - k ≤ g1 ∧ dk.size = d.size ∧ Aside (SWK encDt 8 w0 blk off dk wr) ∧ Hid (∀ x, dk[x]! = if a ≤ x ∧ x < k then d[x + 1]! else if x = k then d[a]! else d[x]!) ∧ Hid (PermIn a b d dk))
      case atStart => exact ⟨a, d, rfl, by omega, by omega, by omega, rfl, S1, Lib.hid (fun x => by rw [if_neg (by omega)]; split <;> simp_all), Lib.hid (permIn_refl _ _ _)⟩
      case round =>
        clear S1
        obtain ⟨k, dk, rfl, hak, hki, hg2, hsk, S1, HA, HP⟩ := hrel
        by_cases hlt2 : k + 1 < i
        · have hltz2 : (k : Int) < (i : Int) - 1 := by omega
          go_wp2_with fail
          obtain ⟨jN, hjN⟩ : ∃ q, q = k + 1 := ⟨_, rfl⟩
          have ec : ((k : Int) + 1).toNat = jN := by omega
          have pc : (0 : Int) ≤ (k : Int) + 1 := by omega
          have ba : (k : Int) < (d.size : Int) := by omega
          have bc : (k : Int) + 1 < (d.size : Int) := by omega
          have rc : IntKind.i64.wrap ((k : Int) + 1) = (k : Int) + 1 := by rw [IntKind.wrap_i64]; omega
          obtain ⟨x, hx⟩ : ∃ x, x = dk[k]! := ⟨_, rfl⟩
          obtain ⟨y, hy⟩ : ∃ x, x = dk[k + 1]! := ⟨_, rfl⟩
          have T3 : Hid _ := Lib.hid (dt_sw2 S1.out R k (k + 1) (by omega) (by omega) x y hx hy k jN (by omega) (by omega))
          obtain ⟨c10, c11, c12, c13, c14, c15, c16, c17⟩ := dt_c8 S1.out R (by omega) k (by omega)
          obtain ⟨c20, c21, c22, c23, c24, c25, c26, c27⟩ := dt_c8 S1.out R (by omega) (k + 1) (by omega)
          obtain ⟨f10, f11, f12, f13, f14, f15, f16, f17⟩ := dt_f8 S1.out R (by omega) k (by omega)
          obtain ⟨f20, f21, f22, f23, f24, f25, f26, f27⟩ := dt_f8 S1.out R (by omega) (k + 1) (by omega)
          rw [← hx] at c10 c11 c12 c13 c14 c15 c16 c17
          rw [← hy] at c20 c21 c22 c23 c24 c25 c26 c27
          try simp only [← hjN] at f10 f11 f12 f13 f14 f15 f16 f17 f20 f21 f22 f23 f24 f25 f26 f27 c10 c11 c12 c13 c14 c15 c16 c17 c20 c21 c22 c23 c24 c25 c26 c27
          clear S1 hx hy hjN
          go_wp2_with fail
          go_big_region_o
          clear f10 f11 f12 f13 f14 f15 f16 f17 f20 f21 f22 f23 f24 f25 f26 f27 c10 c11 c12 c13 c14 c15 c16 c17 c20 c21 c22 c23 c24 c25 c26 c27
          generalize hw3 : ((((((((((((((((wr.setCell ⟨blk, off + k * 8, none⟩ (.string y.car)).setCell ⟨blk, off + k * 8 + 1, none⟩ (.int .i64 y.num)).setCell ⟨blk, off + k * 8 + 2, none⟩ (.int .i64 y.day)).setCell ⟨blk, off + k * 8 + 3, none⟩ (.string y.f)).setCell ⟨blk, off + k * 8 + 4, none⟩ (.string y.t)).setCell ⟨blk, off + k * 8 + 5, none⟩ (.int .i64 y.dep)).setCell ⟨blk, off + k * 8 + 6, none⟩ (.int .i64 y.arr)).setCell ⟨blk, off + k * 8 + 7, none⟩ (.string y.eq)).setCell ⟨blk, off + jN * 8, none⟩ (.string x.car)).setCell ⟨blk, off + jN * 8 + 1, none⟩ (.int .i64 x.num)).setCell ⟨blk, off + jN * 8 + 2, none⟩ (.int .i64 x.day)).setCell ⟨blk, off + jN * 8 + 3, none⟩ (.string x.f)).setCell ⟨blk, off + jN * 8 + 4, none⟩ (.string x.t)).setCell ⟨blk, off + jN * 8 + 5, none⟩ (.int .i64 x.dep)).setCell ⟨blk, off + jN * 8 + 6, none⟩ (.int .i64 x.arr)).setCell ⟨blk, off + jN * 8 + 7, none⟩ (.string x.eq)) = w3 at *
          have S3 : Aside (SWK encDt 8 w0 blk off (swp dk k (k + 1)) w3.drew) := T3.out _ (by rw [← hw3]; rfl)
          clear hw3 T3
          clear ec
          go_wp2
          go_roundg (i - 1 - (k + 1))
          case measure => omega
          case rel => exact ⟨k + 1, swp dk k (k + 1), by go_num, by omega, by omega, by omega, by rw [size_swp]; exact hsk, S3, Lib.hid (swp_up a (i - 1) d dk k (by omega) (by omega) (by omega) hsk HA.out),
            Lib.hid (permIn_trans _ _ _ _ _ HP.out (swp_permIn dk a b k (k + 1) (by omega) (by omega) (by omega) (by omega) (by omega)))⟩
        · have hltz2 : ¬ (k : Int) < (i : Int) - 1 := by omega
          have hk : k = i - 1 := by omega
          have Hk := Lib.hid hk
          clear hk
          go_wp2
          go_end0
          have h0 : m = a + 1 := by omega
          have H1 : Halves tot lo a (a + 1) b d := by rw [← h0]; exact HH.out
          refine ⟨rfl, dk, ⟨HP.out, one_left O.swo H1 (by omega) (by omega) (HL.out.imp (fun h => by omega) id) HR.out (fun x => ?_)⟩, S1.out⟩
          rw [HA.out x, Hk.out]
end Go.Proofs.YtldillnjnjkkgaaGreatDoor

/- The library's stable sort, walked: symMergeCmpFunc where the right row is one element. -/
namespace Go.Proofs.YtldillnjnjkkgaaGreatDoor
open Go.Shelf Go.RowKit Go.Lib Go.Sort
set_option linter.unusedSimpArgs false
set_option linter.unusedVariables false

theorem ite_at (d : Array Dt) (x m : Nat) : d[x]! = if x = m then d[m]! else d[x]! := by
  by_cases h : x = m
  · rw [if_pos h, h]
  · rw [if_neg h]

set_option maxHeartbeats 16000000 in
set_option maxRecDepth 100000 in
theorem symMerge_right (cf : Dt → Dt → Int) (tot : Dt → Dt → Bool) (lo : Dt → Dt → Prop) (O : Ordd (ltOf cf) tot lo) (g : Nat) (cb : Array Value) (blk off cap a m b : Nat) (d0 d : Array Dt) (w0 w : World)
    (eg : ∀ args w, (callFunc g args).run Tryz.prog w = .ok (.enter g args) w) (hcmp : CmpLays Tryz.prog g cb encDt 8 cf blk off d0.size w0) (R : RowK encDt 8 w0 blk off d0)
    (hs : d0.size = d.size) (S : SWK encDt 8 w0 blk off d w) (hb1 : b = m + 1) (ham : a + 1 < m) (hb : b ≤ d.size) (hsz : d.size < 4611686018427387904) (H : Halves tot lo a m b d) :
    Calls Tryz.prog 222 #[.slice (some ⟨blk, off, none⟩) d.size cap, .int .i64 a, .int .i64 m, .int .i64 b, .func (.func g) #[] cb] w
      (Left w0 blk off fun d' => PermIn a b d d' ∧ SortedIn tot a b d') := by
  have mixed : Tryz.prog.follows .mixedOrders = true := by kernel_rfl
  have S0 : Aside (SWK encDt 8 w0 blk off d w) := S
  have HC : Aside _ := hcmp
  have HH := Lib.hid H
  clear S hcmp H
  have hm1 : ((m : Int) - (a : Int) == 1) = false := by rw [beq_eq_false_iff_ne]; omega
  have hm4 : ((b : Int) - (m : Int) == 1) = true := by rw [beq_iff_eq]; omega
  have hm2 : m + 1 ≤ b := by omega
  have hm3 : b ≤ m + 1 := by omega
  clear hb1
  go_enter Tryz.func222, Tryz.ntmps222
  go_wp2
  go_loopg [14, 15, 16] (m - a) (fun g1 vi vj vh wr => ∃ (i j : Nat), vi = .int .i64 i ∧ vj = .int .i64 j ∧ a ≤ i ∧ i ≤ j ∧ j ≤ m ∧ j - i ≤ g1 ∧ Aside (SWK encDt 8 w0 blk off d wr) ∧ Hid (i = a ∨ tot d[m]! d[i - 1]! = false) ∧ Hid (j = m ∨ tot d[m]! d[j]! = true))
  case atStart => exact ⟨a, m, rfl, rfl, by omega, by omega, by omega, by omega, S0, Lib.hid (Or.inl rfl), Lib.hid (Or.inl rfl)⟩
  case round =>
    clear S0
    obtain ⟨i, j, rfl, rfl, hai, hij, hjb, hg1, S1, HL, HR⟩ := hrel
    by_cases hlt : i < j
    · have hltz : (i : Int) < (j : Int) := by omega
      obtain ⟨h, hh⟩ : ∃ h : Nat, h = (i + j) / 2 := ⟨_, rfl⟩
      have hk := test_lt O (HH.out.asc h m (by omega) (by omega) (by omega) (by omega))
      have h1 : i ≤ h := by omega
      have h2 : h < j := by omega
      have ea : (((i : Int) + (j : Int)) / 2).toNat = h := by omega
      have pa : (0 : Int) ≤ ((i : Int) + (j : Int)) / 2 := by omega
      have ba : ((i : Int) + (j : Int)) / 2 < (d.size : Int) := by omega
      have bc : (m : Int) < (d.size : Int) := by omega
      obtain ⟨l10, l11, l12, l13, l14, l15, l16, l17⟩ := dt_cl S1.out R (by omega) h (by omega)
      obtain ⟨l20, l21, l22, l23, l24, l25, l26, l27⟩ := dt_cl S1.out R (by omega) m (by omega)
      obtain ⟨x, hx⟩ : ∃ x, x = d[h]! := ⟨_, rfl⟩
      obtain ⟨y, hy⟩ : ∃ x, x = d[m]! := ⟨_, rfl⟩
      rw [← hx] at l10 l11 l12 l13 l14 l15 l16 l17
      rw [← hy] at l20 l21 l22 l23 l24 l25 l26 l27
      have hc := dt_cmp S1.out HC.out (by omega) y x
      cases hv : tot d[m]! d[h]!
      · have hd1 : decide (cf y x < 0) = false := by rw [hx, hy, hk]; exact hv
        have hd2 : ¬ cf y x < 0 := of_decide_eq_false hd1
        have HV := Lib.hid hv
        have Heh := Lib.hid ea
        clear hx hy hh hv hk
        go_wp2_with fail
        go_quiet_grown (first | (go_at_fn g; refine Calls.grown_of (hc _ _)))
        have S2 : Aside (SWK encDt 8 w0 blk off d (grow (wr.drewN nq) osq)) := S1.out.grown nq osq
        clear l10 l11 l12 l13 l14 l15 l16 l17 l20 l21 l22 l23 l24 l25 l26 l27 hc S1
        generalize grow (wr.drewN nq) osq = w2 at S2 ⊢
        clear nq osq
        clear ea
        go_wp2
        go_roundg (j - (h + 1))
        case measure => omega
        case rel => exact ⟨h + 1, j, (by congr 1; have := Heh.out; omega), rfl, by omega, by omega, by omega, by omega, S2, Lib.hid (Or.inr (by simpa using HV.out)), HR⟩
      · have hd1 : decide (cf y x < 0) = true := by rw [hx, hy, hk]; exact hv
        have hd2 : cf y x < 0 := of_decide_eq_true hd1
        have HV := Lib.hid hv
        have Heh := Lib.hid ea
        clear hx hy hh hv hk
        go_wp2_with fail
        go_quiet_grown (first | (go_at_fn g; refine Calls.grown_of (hc _ _)))
        have S2 : Aside (SWK encDt 8 w0 blk off d (grow (wr.drewN nq) osq)) := S1.out.grown nq osq
        clear l10 l11 l12 l13 l14 l15 l16 l17 l20 l21 l22 l23 l24 l25 l26 l27 hc S1
        generalize grow (wr.drewN nq) osq = w2 at S2 ⊢
        clear nq osq
        clear ea
        go_wp2
        go_roundg (h - i)
        case measure => omega
        case rel => exact ⟨i, h, rfl, (by congr 1; have := Heh.out; omega), by omega, by omega, by omega, by omega, S2, HL, Lib.hid (Or.inr HV.out)⟩
    · have hltz : ¬ (i : Int) < (j : Int) := by omega
      obtain rfl : i = j := by omega
      go_wp2
      go_loopg [17] (m - i) (fun g1 vk wr => ∃ (k : Nat) (dk : Array Dt), vk = .int .i64 k ∧ i ≤ k ∧ k ≤ m ∧ k - i ≤ g1 ∧ dk.size = d.size ∧ Aside (SWK encDt 8 w0 blk off dk wr) ∧ Hid (∀ x, dk[x]! = if k < x ∧ x ≤ m then d[x - 1]! else if x = k then d[m]! else d[x]!) ∧ Hid (PermIn a b d dk))
      case atStart => exact ⟨m, d, rfl, by omega, by omega, by omega, rfl, S1, Lib.hid (fun x => by rw [if_neg (by omega)]; exact ite_at d x m), Lib.hid (permIn_refl _ _ _)⟩
      case round =>
        clear S1
        obtain ⟨k, dk, rfl, hak, hki, hg2, hsk, S1, HA, HP⟩ := hrel
        by_cases hlt2 : i < k
        · have hltz2 : (k : Int) > (i : Int) := by omega
          obtain ⟨kp, hkp⟩ : ∃ q, q + 1 = k := ⟨k - 1, by omega⟩
          have zkp : (k : Int) - 1 = (kp : Int) := by omega
          go_wp2_with fail
          have ba : (k : Int) < (d.size : Int) := by omega
          have bc : (kp : Int) < (d.size : Int) := by omega
          have rc : IntKind.i64.wrap ((k : Int) - 1) = (kp : Int) := by rw [IntKind.wrap_i64]; omega
          obtain ⟨x, hx⟩ : ∃ x, x = dk[k]! := ⟨_, rfl⟩
          obtain ⟨y, hy⟩ : ∃ x, x = dk[kp]! := ⟨_, rfl⟩
          have T3 : Hid _ := Lib.hid (dt_sw2 S1.out R k kp (by omega) (by omega) x y hx hy k kp (by omega) (by omega))
          obtain ⟨c10, c11, c12, c13, c14, c15, c16, c17⟩ := dt_c8 S1.out R (by omega) k (by omega)
          obtain ⟨c20, c21, c22, c23, c24, c25, c26, c27⟩ := dt_c8 S1.out R (by omega) kp (by omega)
          obtain ⟨f10, f11, f12, f13, f14, f15, f16, f17⟩ := dt_f8 S1.out R (by omega) k (by omega)
          obtain ⟨f20, f21, f22, f23, f24, f25, f26, f27⟩ := dt_f8 S1.out R (by omega) kp (by omega)
          rw [← hx] at c10 c11 c12 c13 c14 c15 c16 c17
          rw [← hy] at c20 c21 c22 c23 c24 c25 c26 c27
          have Hkp := Lib.hid hkp
          clear S1 hx hy hkp
          go_wp2_with fail
          go_big_region_o
          clear f10 f11 f12 f13 f14 f15 f16 f17 f20 f21 f22 f23 f24 f25 f26 f27 c10 c11 c12 c13 c14 c15 c16 c17 c20 c21 c22 c23 c24 c25 c26 c27
          generalize hw3 : ((((((((((((((((wr.setCell ⟨blk, off + k * 8, none⟩ (.string y.car)).setCell ⟨blk, off + k * 8 + 1, none⟩ (.int .i64 y.num)).setCell ⟨blk, off + k * 8 + 2, none⟩ (.int .i64 y.day)).setCell ⟨blk, off + k * 8 + 3, none⟩ (.string y.f)).setCell ⟨blk, off + k * 8 + 4, none⟩ (.string y.t)).setCell ⟨blk, off + k * 8 + 5, none⟩ (.int .i64 y.dep)).setCell ⟨blk, off + k * 8 + 6, none⟩ (.int .i64 y.arr)).setCell ⟨blk, off + k * 8 + 7, none⟩ (.string y.eq)).setCell ⟨blk, off + kp * 8, none⟩ (.string x.car)).setCell ⟨blk, off + kp * 8 + 1, none⟩ (.int .i64 x.num)).setCell ⟨blk, off + kp * 8 + 2, none⟩ (.int .i64 x.day)).setCell ⟨blk, off + kp * 8 + 3, none⟩ (.string x.f)).setCell ⟨blk, off + kp * 8 + 4, none⟩ (.string x.t)).setCell ⟨blk, off + kp * 8 + 5, none⟩ (.int .i64 x.dep)).setCell ⟨blk, off + kp * 8 + 6, none⟩ (.int .i64 x.arr)).setCell ⟨blk, off + kp * 8 + 7, none⟩ (.string x.eq)) = w3 at *
          have S3 : Aside (SWK encDt 8 w0 blk off (swp dk k kp) w3.drew) := T3.out _ (by rw [← hw3]; rfl)
          clear hw3 T3
          go_wp2
          have hkp := Hkp.out
          subst hkp
          go_roundg (kp - i)
          case measure => omega
          case rel => exact ⟨kp, swp dk (kp + 1) kp, rfl, by omega, by omega, by omega, by rw [size_swp]; exact hsk, S3, Lib.hid (swp_down m d dk kp (by omega) (by omega) hsk HA.out),
            Lib.hid (permIn_trans _ _ _ _ _ HP.out (swp_permIn dk a b (kp + 1) kp (by omega) (by omega) (by omega) (by omega) (by omega)))⟩
        · have hltz2 : ¬ (k : Int) > (i : Int) := by omega
          obtain rfl : i = k := by omega
          go_wp2
          go_end0
          have h0 : b = m + 1 := by omega
          have H1 : Halves tot lo a m (m + 1) d := by rw [← h0]; exact HH.out
          refine ⟨rfl, dk, ⟨HP.out, ?_⟩, S1.out⟩
          rw [h0]
          exact one_right O.swo H1 (by omega) (by omega) HL.out HR.out HA.out
end Go.Proofs.YtldillnjnjkkgaaGreatDoor

/- The library's stable sort, walked: symMergeCmpFunc makes one sorted row of two, at all lengths. -/
namespace Go.Proofs.YtldillnjnjkkgaaGreatDoor
open Go.Shelf Go.RowKit Go.Lib Go.Sort
set_option linter.unusedSimpArgs false
set_option linter.unusedVariables false

/-- the call on any two rows that lie beside one another, at most N places -/
def Merges (tot : Dt → Dt → Bool) (lo : Dt → Dt → Prop) (g : Nat) (cb : Array Value) (blk off cap : Nat) (d0 : Array Dt) (w0 : World) (N : Nat) : Prop :=
  ∀ (a m b : Nat) (d : Array Dt) (w : World), b - a ≤ N → a < m → m < b → b ≤ d.size → d.size < 4611686018427387904 → d0.size = d.size → SWK encDt 8 w0 blk off d w → Halves tot lo a m b d →
    Calls Tryz.prog 222 #[.slice (some ⟨blk, off, none⟩) d.size cap, .int .i64 a, .int .i64 m, .int .i64 b, .func (.func g) #[] cb] w
      (Left w0 blk off fun d' => PermIn a b d d' ∧ SortedIn tot a b d')

/-- the binary search for the cut -/
structure Seek (tot : Dt → Dt → Bool) (d : Array Dt) (p s0 r0 s r : Nat) : Prop where
  low : s = s0 ∨ tot d[p - (s - 1)]! d[s - 1]! = false
  high : r = r0 ∨ tot d[p - r]! d[r]! = true

theorem Seek.cut {tot : Dt → Dt → Bool} {d : Array Dt} {a m b mid s s0 r0 : Nat} (h : Seek tot d (mid + m - 1) s0 r0 s s) (ham : a < m) (hmb : m < b) (hmid : mid = (a + b) / 2)
    (h0 : (mid < m ∧ s0 + b = mid + m ∧ r0 = mid) ∨ (m ≤ mid ∧ s0 = a ∧ r0 = m)) (hs1 : s0 ≤ s) (hs2 : s ≤ r0) : Cutt tot a m b mid s (mid + m - s) d := by
  refine ⟨by omega, by omega, by omega, by omega, by omega, ?_, ?_⟩
  · rcases h.low with hl | hl
    · rcases h0 with h0 | h0
      · exact Or.inr (Or.inl (by omega))
      · exact Or.inl (by omega)
    · by_cases hs : s = s0
      · rcases h0 with h0 | h0
        · exact Or.inr (Or.inl (by omega))
        · exact Or.inl (by omega)
      · rw [show mid + m - 1 - (s - 1) = mid + m - s by omega] at hl
        exact Or.inr (Or.inr hl)
  · rcases h.high with hl | hl
    · rcases h0 with h0 | h0
      · exact Or.inr (Or.inl (by omega))
      · exact Or.inl (by omega)
    · by_cases hs : s = r0
      · rcases h0 with h0 | h0
        · exact Or.inr (Or.inl (by omega))
        · exact Or.inl (by omega)
      · rw [show mid + m - 1 - s = mid + m - s - 1 by omega] at hl
        exact Or.inr (Or.inr hl)

set_option maxHeartbeats 16000000 in
set_option maxRecDepth 100000 in
theorem symMerge_main (cf : Dt → Dt → Int) (tot : Dt → Dt → Bool) (lo : Dt → Dt → Prop) (O : Ordd (ltOf cf) tot lo) (g : Nat) (cb : Array Value) (blk off cap a m b : Nat) (d0 d : Array Dt) (w0 w : World)
    (eg : ∀ args w, (callFunc g args).run Tryz.prog w = .ok (.enter g args) w) (hcmp : CmpLays Tryz.prog g cb encDt 8 cf blk off d0.size w0) (R : RowK encDt 8 w0 blk off d0)
    (hs : d0.size = d.size) (S : SWK encDt 8 w0 blk off d w) (ham : a + 1 < m) (hmb : m + 1 < b) (hb : b ≤ d.size) (hsz : d.size < 4611686018427387904) (H : Halves tot lo a m b d)
    (IH : Merges tot lo g cb blk off cap d0 w0 (b - a - 1)) :
    Calls Tryz.prog 222 #[.slice (some ⟨blk, off, none⟩) d.size cap, .int .i64 a, .int .i64 m, .int .i64 b, .func (.func g) #[] cb] w
      (Left w0 blk off fun d' => PermIn a b d d' ∧ SortedIn tot a b d') := by
  have mixed : Tryz.prog.follows .mixedOrders = true := by kernel_rfl
  have S0 : Aside (SWK encDt 8 w0 blk off d w) := S
  have HC : Aside _ := hcmp
  have HH := Lib.hid H
  have HI := Lib.hid IH
  clear S hcmp H IH
  have hm1 : ((m : Int) - (a : Int) == 1) = false := by rw [beq_eq_false_iff_ne]; omega
  have hm4 : ((b : Int) - (m : Int) == 1) = false := by rw [beq_eq_false_iff_ne]; omega
  obtain ⟨mid, hmid⟩ : ∃ q : Nat, q = (a + b) / 2 := ⟨_, rfl⟩
  have hq : ((a : Int) + (b : Int)) / 2 = (mid : Int) := by omega
  have Hmid := Lib.hid hmid
  have hb1 : a < mid := by omega
  have hb2 : mid < b := by omega
  clear hmid hq
  obtain ⟨s0, r0, h0⟩ : ∃ s0 r0 : Nat, (mid < m ∧ s0 + b = mid + m ∧ r0 = mid) ∨ (m ≤ mid ∧ s0 = a ∧ r0 = m) := by
    by_cases h : mid < m
    · exact ⟨mid + m - b, mid, Or.inl ⟨h, by have := Hmid.out; omega, rfl⟩⟩
    · exact ⟨a, m, Or.inr ⟨by omega, rfl, rfl⟩⟩
  have H0 := Lib.hid h0
  have hs0 : a ≤ s0 := by have := Hmid.out; omega
  have hr0 : r0 ≤ m := by omega
  have hr1 : r0 ≤ mid := by omega
  have hs2 : mid + m ≤ s0 + b := by have := Hmid.out; omega
  have hs3 : s0 ≤ r0 := by have := Hmid.out; omega
  have hq : ((a : Int) + (b : Int)) / 2 = (mid : Int) := by have := Hmid.out; omega
  have hk0 : (mid < m ∧ s0 + b = mid + m) ∨ (m ≤ mid ∧ s0 = a) := by omega
  have Hq := Lib.hid hq
  rcases h0 with ⟨h1, h2, h3⟩ | ⟨h1, h2, h3⟩
  all_goals
    have g2 := Lib.hid h2
    have g3 := Lib.hid h3
    clear h2 h3 hk0
    have z1 : decide (mid < m) = true ∨ decide (mid < m) = false := by cases decide (mid < m) <;> simp
    have z2 : decide ((m : Int) > (mid : Int)) = decide (mid < m) := by simp
    have z3 : decide ((mid : Int) < (m : Int)) = decide (mid < m) := by simp
    rcases z1 with z1 | z1
    all_goals (first | (exfalso; simp at z1; omega) | skip)
    rw [z1] at z2 z3
    go_enter Tryz.func222, Tryz.ntmps222
    go_wp2
    go_loopg [20, 21, 23] (r0 - s0) (fun g1 vi vj vh wr => ∃ (i j : Nat), vi = .int .i64 i ∧ vj = .int .i64 j ∧ s0 ≤ i ∧ i ≤ j ∧ j ≤ r0 ∧ j - i ≤ g1 ∧ Aside (SWK encDt 8 w0 blk off d wr) ∧ Hid (Seek tot d (mid + m - 1) s0 r0 i j))
    case atStart => exact ⟨s0, r0, (by congr 1; have := g2.out; omega), (by congr 1; have := g3.out; omega), Nat.le_refl _, hs3, Nat.le_refl _, Nat.le_refl _, S0, Lib.hid ⟨Or.inl rfl, Or.inl rfl⟩⟩
    case round =>
      clear S0
      obtain ⟨i, j, rfl, rfl, hai, hij, hjb, hg1, S1, HL⟩ := hrel
      by_cases hlt : i < j
      · have hltz : (i : Int) < (j : Int) := by omega
        obtain ⟨h, hh⟩ : ∃ h : Nat, h = (i + j) / 2 := ⟨_, rfl⟩
        have k1 : i ≤ h := by omega
        have k2 : h < j := by omega
        obtain ⟨q, hq2⟩ : ∃ q : Nat, q = mid + m - 1 - h := ⟨_, rfl⟩
        have hk := test_lt O (HH.out.asc h q (by omega) (by omega) (by omega) (by omega))
        have ea : (((i : Int) + (j : Int)) / 2).toNat = h := by omega
        have pa : (0 : Int) ≤ ((i : Int) + (j : Int)) / 2 := by omega
        have ba : ((i : Int) + (j : Int)) / 2 < (d.size : Int) := by omega
        have ra : IntKind.i64.wrap ((mid : Int) + (m : Int) - 1 - ((i : Int) + (j : Int)) / 2) = (q : Int) := by rw [IntKind.wrap_i64]; omega
        have rb : (mid : Int) + (m : Int) - 1 - ((i : Int) + (j : Int)) / 2 = (q : Int) := by omega
        have bc : (q : Int) < (d.size : Int) := by omega
        have rc : IntKind.i64.wrap (q : Int) = (q : Int) := by rw [IntKind.wrap_i64]; omega
        obtain ⟨l10, l11, l12, l13, l14, l15, l16, l17⟩ := dt_cl S1.out R (by omega) h (by omega)
        obtain ⟨l20, l21, l22, l23, l24, l25, l26, l27⟩ := dt_cl S1.out R (by omega) q (by omega)
        obtain ⟨x, hx⟩ : ∃ x, x = d[h]! := ⟨_, rfl⟩
        obtain ⟨y, hy⟩ : ∃ x, x = d[q]! := ⟨_, rfl⟩
        rw [← hx] at l10 l11 l12 l13 l14 l15 l16 l17
        rw [← hy] at l20 l21 l22 l23 l24 l25 l26 l27
        have hc := dt_cmp S1.out HC.out (by omega) y x
        have Hq2 := Lib.hid hq2
        cases hv : tot d[q]! d[h]!
        · have hd1 : decide (cf y x < 0) = false := by rw [hx, hy, hk]; exact hv
          have hd2 : ¬ cf y x < 0 := of_decide_eq_false hd1
          have HV := Lib.hid hv
          have Heh := Lib.hid ea
          clear hx hy hh hv hk hq2 Hq
          go_wp2_with fail
          go_quiet_grown (first | (go_at_fn g; refine Calls.grown_of (hc _ _)))
          have S2 : Aside (SWK encDt 8 w0 blk off d (grow (wr.drewN nq) osq)) := S1.out.grown nq osq
          clear l10 l11 l12 l13 l14 l15 l16 l17 l20 l21 l22 l23 l24 l25 l26 l27 hc S1
          generalize grow (wr.drewN nq) osq = w2 at S2 ⊢
          clear nq osq
          clear ea ra rb rc
          go_wp2
          go_roundg (j - (h + 1))
          case measure => omega
          case rel => exact ⟨h + 1, j, (by congr 1; have := Heh.out; omega), rfl, by omega, by omega, by omega, by omega, S2, Lib.hid ⟨Or.inr (by simp only [Nat.add_sub_cancel]; rw [← Hq2.out]; exact HV.out), HL.out.high⟩⟩
        · have hd1 : decide (cf y x < 0) = true := by rw [hx, hy, hk]; exact hv
          have hd2 : cf y x < 0 := of_decide_eq_true hd1
          have HV := Lib.hid hv
          have Heh := Lib.hid ea
          clear hx hy hh hv hk hq2 Hq
          go_wp2_with fail
          go_quiet_grown (first | (go_at_fn g; refine Calls.grown_of (hc _ _)))
          have S2 : Aside (SWK encDt 8 w0 blk off d (grow (wr.drewN nq) osq)) := S1.out.grown nq osq
          clear l10 l11 l12 l13 l14 l15 l16 l17 l20 l21 l22 l23 l24 l25 l26 l27 hc S1
          generalize grow (wr.drewN nq) osq = w2 at S2 ⊢
          clear nq osq
          clear ea ra rb rc
          go_wp2
          go_roundg (h - i)
          case measure => omega
          case rel => exact ⟨i, h, rfl, (by congr 1; have := Heh.out; omega), by omega, by omega, by omega, by omega, S2, Lib.hid ⟨HL.out.low, Or.inr (by rw [← Hq2.out]; exact HV.out)⟩⟩
      · have hltz : ¬ (i : Int) < (j : Int) := by omega
        obtain rfl : i = j := by omega
        obtain ⟨e, he⟩ : ∃ e : Nat, e = mid + m - i := ⟨_, rfl⟩
        have C := Seek.cut HL.out (by omega) (by omega) Hmid.out H0.out hai hjb
        rw [← he] at C
        have CC := Lib.hid C
        obtain ⟨c1, c2, c3, c4, c5, _, _⟩ := C
        have hez : (mid : Int) + (m : Int) - (i : Int) = (e : Int) := by omega
        have Hd := Lib.hid hs
        have c5a : i + e ≤ mid + m := by omega
        have c5b : mid + m ≤ i + e := by omega
        clear he hs c5
        have P1 := Lib.hid (fun w' (S : SWK encDt 8 w0 blk off d w') (h1 : i < m) (h2 : m < e) => rotate_s (.func (.func g) #[] cb) blk off cap i m e d0 d w0 w' R Hd.out S h1 h2 (by omega) hsz)
        have P2 := Lib.hid (fun (d2 : Array Dt) (hd : d2.size = d.size) (hr : ∀ k, d2[k]! = rotAt i m e d k) w' (S : SWK encDt 8 w0 blk off d2 w') (h1 : a < i) (h2 : i < mid) => by
          have C := HI.out a i mid d2 w' (by omega) h1 h2 (by omega) (by omega) (by rw [hd]; exact Hd.out) S (CC.out.lower HH.out hr)
          rw [hd] at C
          exact C)
        have P3 := Lib.hid (fun (d2 d3 : Array Dt) (hd : d2.size = d.size) (hr : ∀ k, d2[k]! = rotAt i m e d k) (hp : PermIn a mid d2 d3) w' (S : SWK encDt 8 w0 blk off d3 w') (h1 : mid < e) (h2 : e < b) => by
          have C := HI.out mid e b d3 w' (by omega) h1 h2 (by rw [hp.1]; omega) (by rw [hp.1]; omega) (by rw [hp.1, hd]; exact Hd.out) S (CC.out.upper HH.out hr hp)
          rw [hp.1, hd] at C
          exact C)
        clear z1 z2 z3 hltz hez
        have hez : (mid : Int) + (m : Int) - (i : Int) = (e : Int) := by omega
        go_upto_region 39 with fail
        go_cut [185] from 178 to 191 (fun v wx => ∃ B : Bool, v = .bool B ∧ Hid (B = decide (i < m ∧ m < e)) ∧ Aside (SWK encDt 8 w0 blk off d wx))
        case first =>
          go_wp2
          all_goals
            go_meet
            case rel => exact ⟨_, rfl, Lib.hid (by rw [Bool.eq_iff_iff]; simp <;> omega), S1⟩
        case rest =>
          obtain ⟨B, rfl, HB, S2⟩ := hcut
          go_upto_if 185 with fail
          go_cut [] from 178 to 191 (fun wx => ∃ d2 : Array Dt, Hid (d2.size = d.size) ∧ Hid (∀ k, d2[k]! = rotAt i m e d k) ∧ Hid (PermIn a b d d2) ∧ Aside (SWK encDt 8 w0 blk off d2 wx))
          case first =>
            cases B
            · have hr : ¬ (i < m ∧ m < e) := of_decide_eq_false HB.out.symm
              have Hr := Lib.hid hr
              clear hr
              go_wp2
              go_meet
              case rel => exact ⟨d, Lib.hid rfl, Lib.hid (rot_none i m e d (by have := Hr.out; omega) c2 c3), Lib.hid (permIn_refl _ _ _), S2⟩
            · have hr : i < m ∧ m < e := of_decide_eq_true HB.out.symm
              obtain ⟨hr1, hr2⟩ := hr
              go_wp2_with fail
              refine (P1.out _ S2.out hr1 hr2).mono ?_
              rintro e' w' ⟨rfl, d2, ⟨q1, q2, q3⟩, S3⟩
              have Q1 := Lib.hid q1
              have Q2 := Lib.hid q2
              have Q3 := Lib.hid (permIn_mono _ _ i e a b c1 c4 hb q3)
              have T2 : Aside _ := S3
              clear q1 q2 q3 S3
              go_wp2
              go_meet
              case rel => exact ⟨d2, Q1, Q2, Q3, T2⟩
          case rest =>
            obtain ⟨d2, Q1, Q2, Q3, T2⟩ := hcut
            clear HB S2
            go_upto_region 41 with fail
            go_cut [199] from 192 to 205 (fun v wx => ∃ B : Bool, v = .bool B ∧ Hid (B = decide (a < i ∧ i < mid)) ∧ Aside (SWK encDt 8 w0 blk off d2 wx))
            case first =>
              go_wp2
              all_goals
                go_meet
                case rel => exact ⟨_, rfl, Lib.hid (by rw [Bool.eq_iff_iff]; simp <;> omega), T2⟩
            case rest =>
              obtain ⟨B2, rfl, HB2, S2⟩ := hcut
              go_upto_if 199 with fail
              go_cut [] from 192 to 205 (fun wx => ∃ d3 : Array Dt, Hid (PermIn a mid d2 d3) ∧ Hid (SortedIn tot a mid d3) ∧ Aside (SWK encDt 8 w0 blk off d3 wx))
              case first =>
                cases B2
                · have hr : ¬ (a < i ∧ i < mid) := of_decide_eq_false HB2.out.symm
                  have Hr := Lib.hid hr
                  clear hr
                  go_wp2
                  go_meet
                  case rel => exact ⟨d2, Lib.hid (permIn_refl _ _ _), Lib.hid ((CC.out.lower HH.out Q2.out).sorted Hr.out), S2⟩
                · have hr : a < i ∧ i < mid := of_decide_eq_true HB2.out.symm
                  obtain ⟨hr1, hr2⟩ := hr
                  go_wp2_with fail
                  refine (P2.out d2 Q1.out Q2.out _ S2.out hr1 hr2).mono ?_
                  rintro e' w' ⟨rfl, d3, ⟨q1, q2⟩, S3⟩
                  have R1 := Lib.hid q1
                  have R2 := Lib.hid q2
                  have T3 : Aside _ := S3
                  clear q1 q2 S3
                  go_wp2
                  go_meet
                  case rel => exact ⟨d3, R1, R2, T3⟩
              case rest =>
                obtain ⟨d3, R1, R2, T3⟩ := hcut
                clear HB2 S2
                have fin : ∀ d4, PermIn mid b d3 d4 → SortedIn tot mid b d4 → PermIn a b d d4 ∧ SortedIn tot a b d4 := fun d4 p4 s4 => by
                  have g := glue a mid b d2 d3 d4 (by omega) (by omega) (by rw [Q1.out]; exact hb) (CC.out.cross O.swo HH.out Q2.out) R1.out R2.out p4 s4
                  exact ⟨permIn_trans _ _ _ _ _ Q3.out g.1, g.2⟩
                have FIN := Lib.hid fin
                clear fin
                go_upto_region 43 with fail
                go_cut [213] from 206 to 219 (fun v wx => ∃ B : Bool, v = .bool B ∧ Hid (B = decide (mid < e ∧ e < b)) ∧ Aside (SWK encDt 8 w0 blk off d3 wx))
                case first =>
                  go_wp2
                  all_goals
                    go_meet
                    case rel => exact ⟨_, rfl, Lib.hid (by rw [Bool.eq_iff_iff]; simp <;> omega), T3⟩
                case rest =>
                  obtain ⟨B3, rfl, HB3, S2⟩ := hcut
                  cases B3
                  · have hr : ¬ (mid < e ∧ e < b) := of_decide_eq_false HB3.out.symm
                    have Hr := Lib.hid hr
                    clear hr
                    go_wp2
                    go_end0
                    exact ⟨rfl, d3, FIN.out d3 (permIn_refl _ _ _) ((CC.out.upper HH.out Q2.out R1.out).sorted Hr.out), S2.out⟩
                  · have hr : mid < e ∧ e < b := of_decide_eq_true HB3.out.symm
                    obtain ⟨hr1, hr2⟩ := hr
                    go_wp2_with fail
                    refine (P3.out d2 d3 Q1.out Q2.out R1.out _ S2.out hr1 hr2).mono ?_
                    rintro e' w' ⟨rfl, d4, ⟨q1, q2⟩, S3⟩
                    have R3 := Lib.hid q1
                    have R4 := Lib.hid q2
                    have T4 : Aside _ := S3
                    clear q1 q2 S3
                    go_wp2
                    go_end0
                    exact ⟨rfl, d4, FIN.out d4 R3.out R4.out, T4.out⟩
end Go.Proofs.YtldillnjnjkkgaaGreatDoor

/- The library's stable sort, walked: slices.SortStableFunc on at most 160 elements leaves the one stable order. -/
namespace Go.Proofs.YtldillnjnjkkgaaGreatDoor
open Go.Shelf Go.RowKit Go.Lib Go.Sort
set_option linter.unusedSimpArgs false
set_option linter.unusedVariables false

theorem symMerge_all (cf : Dt → Dt → Int) (tot : Dt → Dt → Bool) (lo : Dt → Dt → Prop) (O : Ordd (ltOf cf) tot lo) (g : Nat) (cb : Array Value) (blk off cap : Nat) (d0 : Array Dt) (w0 : World)
    (eg : ∀ args w, (callFunc g args).run Tryz.prog w = .ok (.enter g args) w) (hcmp : CmpLays Tryz.prog g cb encDt 8 cf blk off d0.size w0) (R : RowK encDt 8 w0 blk off d0) :
    ∀ N, Merges tot lo g cb blk off cap d0 w0 N
  | 0 => fun a m b d w h1 h2 h3 _ _ _ _ _ => by omega
  | N + 1 => fun a m b d w h1 h2 h3 h4 h5 h6 S H => by
    have IH := symMerge_all cf tot lo O g cb blk off cap d0 w0 eg hcmp R N
    by_cases hm : m = a + 1
    · exact symMerge_left cf tot lo O g cb blk off cap a m b d0 d w0 w eg hcmp R h6 S hm h3 h4 h5 H
    by_cases hb : b = m + 1
    · exact symMerge_right cf tot lo O g cb blk off cap a m b d0 d w0 w eg hcmp R h6 S hb (by omega) h4 h5 H
    · exact symMerge_main cf tot lo O g cb blk off cap a m b d0 d w0 w eg hcmp R h6 S (by omega) (by omega) h4 h5 H
        (fun a' m' b' d' w' g1 => IH a' m' b' d' w' (by omega))

def insRen : Go.Shelf.Ren := ⟨fun | 20 => 221 | n => n, fun | 0 => 0 | 3 => 3 | 4 => 4 | 22 => 54 | 24 => 65 | 25 => 130 | n => n, fun | n => n⟩
theorem insLays : Go.Proofs.SlLaysF0.n20 Tryz.prog insRen := {
  mixed := by kernel_rfl
  f20 := ⟨"slices.insertionSortCmpFunc[airline/api.Dated]", by kernel_rfl, Tryz.func221.trans (congrArg some (by kernel_rfl))⟩
  t0 := Tryz.underlying0
  a0 := Tryz.isAgg0
  z0 := Tryz.sizeOf0
  v0 := Tryz.zeroValue0
  t3 := Tryz.underlying3
  a3 := Tryz.isAgg3
  z3 := Tryz.sizeOf3
  v3 := Tryz.zeroValue3
  t4 := Tryz.underlying4
  a4 := Tryz.isAgg4
  z4 := Tryz.sizeOf4
  v4 := Tryz.zeroValue4
  t22 := Tryz.underlying54
  a22 := Tryz.isAgg54
  z22 := Tryz.sizeOf54
  v22 := Tryz.zeroValue54
  t25 := Tryz.underlying130
  a25 := Tryz.isAgg130
  z25 := Tryz.sizeOf130
  v25 := Tryz.zeroValue130 }

/-- the insertion sort on the places a ≤ k < b, which stand in their first order -/
theorem insertion_s (cf : Dt → Dt → Int) (tot : Dt → Dt → Bool) (lo : Dt → Dt → Prop) (O : Ordd (ltOf cf) tot lo) (g : Nat) (cb : Array Value) (blk off cap a b : Nat) (d0 d : Array Dt) (w0 w : World)
    (eg : ∀ args w, (callFunc g args).run Tryz.prog w = .ok (.enter g args) w) (hcmp : CmpLays Tryz.prog g cb encDt 8 cf blk off d0.size w0) (R : RowK encDt 8 w0 blk off d0)
    (hs : d0.size = d.size) (S : SWK encDt 8 w0 blk off d w) (hab : a ≤ b) (hb : b ≤ d.size) (hsz : d.size < 4611686018427387904) (H : ∀ k m, a ≤ k → k < m → m < b → lo d[k]! d[m]!) :
    Calls Tryz.prog 221 #[.slice (some ⟨blk, off, none⟩) d.size cap, .int .i64 a, .int .i64 b, .func (.func g) #[] cb] w
      (Left w0 blk off fun d' => PermIn a b d d' ∧ SortedIn tot a b d') := by
  have hst := insertion_stable O a b d hab hb H
  have hC : CmpLays Tryz.prog g cb encDt 8 cf blk off d.size w := fun m os dk hdk x y => by
    obtain ⟨n0, os0, rfl⟩ := S
    rw [sortWorldK_on encDt 8 w0 blk off n0 m d dk os0 os R.hblk hdk]
    exact hcmp _ _ dk (by omega) x y
  have h := AnyQ.insertionSortCmpFunc insLays 8 (fun w => Tryz.isAgg65 w) (fun w => Tryz.sizeOf65 w) encDt R.hk R.h1 cf g cb blk off cap a b d w eg hC (S.holds R.hblk R.hH hs.symm) (S.lt R.hblk) hab hb hsz
  change Calls Tryz.prog 221 _ _ _ at h
  refine h.mono ?_
  rintro e w' ⟨rfl, n, os, rfl⟩
  exact ⟨rfl, _, hst, S.on R.hblk n _ os hst.1.1⟩

/-- the labels of the blocks: those below a are sorted in blocks of B, the rest stands as it stood -/
def labI (a : Nat) (i : Nat) : Nat := if i < a then i / 20 else 1000 + i
/-- those below a are sorted in blocks of C, the rest in blocks of B -/
def labM (C B a : Nat) (i : Nat) : Nat := if i < a then i / C else 1000 + i / B

section
variable {tot : Dt → Dt → Bool} {lo : Dt → Dt → Prop}
theorem labI_step {n a b : Nat} {d d' : Array Dt} (h : Lab tot lo n (labI a) d) (ha : a % 20 = 0) (hab : a ≤ b) (hb : b ≤ n) (hb2 : b ≤ a + 20) (hbn : b = a + 20 ∨ b = n) (hn : n ≤ d.size) (h160 : n ≤ 160)
    (p : PermIn a b d d') (s : SortedIn tot a b d') : Lab tot lo n (labI b) d' := by
  refine h.step hb hn p s (fun i j h1 h2 h3 => ?_) (fun i j h1 h2 h3 => ?_) (fun i j h1 h2 h3 => ?_)
  · unfold labI; rw [if_pos (by omega), if_pos (by omega)]; omega
  · unfold labI
    repeat' split
    all_goals omega
  · unfold labI
    repeat' split
    all_goals omega
theorem labI_first {n : Nat} {d : Array Dt} (h : ∀ i j, i < j → j < n → lo d[i]! d[j]!) : Lab tot lo n (labI 0) d := fun i j h1 h2 =>
  ⟨fun h3 => by unfold labI at h3; rw [if_neg (by omega), if_neg (by omega)] at h3; omega, fun _ => h i j h1 h2⟩
theorem labI_asc {n a b : Nat} {d : Array Dt} (h : Lab tot lo n (labI a) d) (hb : b ≤ n) (k m : Nat) (h1 : a ≤ k) (h2 : k < m) (h3 : m < b) : lo d[k]! d[m]! :=
  (h k m h2 (by omega)).2 (by unfold labI; rw [if_neg (by omega), if_neg (by omega)]; omega)
theorem labI_last {n : Nat} {d : Array Dt} (h : Lab tot lo n (labI n) d) : Lab tot lo n (labM 40 20 0) d := by
  refine h.congr (fun i j h1 h2 => ?_)
  unfold labI labM
  rw [if_neg (by omega), if_neg (by omega), if_pos (by omega), if_pos (by omega)]
  omega
theorem labM_step {n a b B : Nat} {d d' : Array Dt} (h : Lab tot lo n (labM (2 * B) B a) d) (hB : B = 20 ∨ B = 40 ∨ B = 80) (ha : a % (2 * B) = 0) (hab : a ≤ b) (hb : b ≤ n) (hb2 : b ≤ a + 2 * B) (hbn : b = a + 2 * B ∨ b = n) (hn : n ≤ d.size) (h160 : n ≤ 160)
    (p : PermIn a b d d') (s : SortedIn tot a b d') : Lab tot lo n (labM (2 * B) B b) d' := by
  rcases hB with rfl | rfl | rfl
  all_goals
    refine h.step hb hn p s (fun i j h1 h2 h3 => ?_) (fun i j h1 h2 h3 => ?_) (fun i j h1 h2 h3 => ?_)
    · unfold labM; rw [if_pos (by omega), if_pos (by omega)]; omega
    · unfold labM
      repeat' split
      all_goals omega
    · unfold labM
      repeat' split
      all_goals omega
theorem labM_halves {n a b B : Nat} {d : Array Dt} (h : Lab tot lo n (labM (2 * B) B a) d) (hB : B = 20 ∨ B = 40 ∨ B = 80) (ha : a % (2 * B) = 0) (hm : a + B ≤ b) (hb : b ≤ n) (hb2 : b ≤ a + 2 * B) (h160 : n ≤ 160) : Halves tot lo a (a + B) b d := by
  rcases hB with rfl | rfl | rfl
  all_goals
    refine h.halves hb (fun i j h1 h2 h3 => ?_) (fun i j h1 h2 h3 => ?_) (fun i j h1 h2 h3 h4 => ?_) hm
    all_goals
      unfold labM
      rw [if_neg (by omega), if_neg (by omega)]
      omega
/-- the row of blocks is through: the next size -/
theorem labM_next {n a B : Nat} {d : Array Dt} (h : Lab tot lo n (labM (2 * B) B a) d) (hB : B = 20 ∨ B = 40 ∨ B = 80) (ha : a % (2 * B) = 0) (hn : n ≤ a + B) (h160 : n ≤ 160) : Lab tot lo n (labM (2 * (2 * B)) (2 * B) 0) d := by
  rcases hB with rfl | rfl | rfl
  all_goals
    refine h.congr (fun i j h1 h2 => ?_)
    unfold labM
    repeat' split
    all_goals omega
theorem labM_whole {n c B : Nat} {d : Array Dt} (h : Lab tot lo n (labM (2 * B) B n) d) (hB : B = 20 ∨ B = 40 ∨ B = 80) (hc : c % (2 * B) = 0) (hn1 : n < c + 2 * B) (hcn : c ≤ n) (h160 : n ≤ 160) : Lab tot lo n (labM (2 * (2 * B)) (2 * B) 0) d := by
  rcases hB with rfl | rfl | rfl
  all_goals
    refine h.congr (fun i j h1 h2 => ?_)
    unfold labM
    repeat' split
    all_goals omega
/-- one block: the row is sorted -/
theorem labM_sorted {n B : Nat} {d : Array Dt} (h : Lab tot lo n (labM (2 * B) B 0) d) (hn : n ≤ B) (hB : 0 < B) : SortedIn tot 0 n d := fun i j _ h1 h2 =>
  (h i j h1 h2).1 (by unfold labM; rw [if_neg (by omega), if_neg (by omega), Nat.div_eq_of_lt (by omega), Nat.div_eq_of_lt (by omega)])
end
end Go.Proofs.YtldillnjnjkkgaaGreatDoor

/- The library's stable sort, walked: slices.SortStableFunc on at most 160 elements leaves the one stable order. -/
namespace Go.Proofs.YtldillnjnjkkgaaGreatDoor
open Go.Shelf Go.RowKit Go.Lib Go.Sort
set_option linter.unusedSimpArgs false
set_option linter.unusedVariables false

set_option maxHeartbeats 16000000 in
set_option maxRecDepth 100000 in
theorem stable_s (cf : Dt → Dt → Int) (tot : Dt → Dt → Bool) (lo : Dt → Dt → Prop) (O : Ordd (ltOf cf) tot lo) (g : Nat) (cb : Array Value) (blk off cap n : Nat) (d0 d : Array Dt) (w0 w : World)
    (eg : ∀ args w, (callFunc g args).run Tryz.prog w = .ok (.enter g args) w) (hcmp : CmpLays Tryz.prog g cb encDt 8 cf blk off d0.size w0) (R : RowK encDt 8 w0 blk off d0)
    (hs : d0.size = d.size) (S : SWK encDt 8 w0 blk off d w) (hn : n = d.size) (h160 : n ≤ 160) (H : ∀ i j, i < j → j < n → lo d[i]! d[j]!) :
    Calls Tryz.prog 170 #[.slice (some ⟨blk, off, none⟩) d.size cap, .int .i64 n, .func (.func g) #[] cb] w
      (Left w0 blk off fun d' => PermIn 0 n d d' ∧ SortedIn tot 0 n d') := by
  have INS := Lib.hid (fun (a b : Nat) (dk : Array Dt) (hd : dk.size = d.size) w' (S : SWK encDt 8 w0 blk off dk w') (hab : a ≤ b) (hb : b ≤ n) (hl : Lab tot lo n (labI a) dk) => by
    have C := insertion_s cf tot lo O g cb blk off cap a b d0 dk w0 w' eg hcmp R (by omega) S hab (by omega) (by omega) (labI_asc hl hb)
    rw [hd] at C
    exact C)
  have MRG := Lib.hid (fun (a m b : Nat) (dk : Array Dt) (hd : dk.size = d.size) w' (S : SWK encDt 8 w0 blk off dk w') (h1 : a < m) (h2 : m < b) (hb : b ≤ n) (hl : Halves tot lo a m b dk) => by
    have C := symMerge_all cf tot lo O g cb blk off cap d0 w0 eg hcmp R _ a m b dk w' (Nat.le_refl _) h1 h2 (by omega) (by omega) (by omega) S hl
    rw [hd] at C
    exact C)
  have S0 : Aside (SWK encDt 8 w0 blk off d w) := S
  have HF := Lib.hid (labI_first (tot := tot) H)
  have HN := Lib.hid hn
  clear S H hn hcmp
  go_enter Tryz.func170, Tryz.ntmps170
  go_wp2
  go_loopg [7, 8] n (fun g1 va vb wr => ∃ (a : Nat) (dk : Array Dt), va = .int .i64 a ∧ vb = .int .i64 ((a : Int) + 20) ∧ Hid (a % 20 = 0) ∧ a ≤ n ∧ n - a ≤ g1 ∧ Hid (dk.size = d.size) ∧ Aside (SWK encDt 8 w0 blk off dk wr) ∧ Hid (Lab tot lo n (labI a) dk) ∧ Hid (PermIn 0 n d dk))
  case atStart => exact ⟨0, d, rfl, rfl, Lib.hid rfl, by omega, by omega, Lib.hid rfl, S0, HF, Lib.hid (permIn_refl _ _ _)⟩
  case round =>
    clear S0 HF
    obtain ⟨a, dk, rfl, rfl, HA, han, hg1, HD, S1, HL, HP⟩ := hrel
    by_cases hlt : a + 20 ≤ n
    · have hltz : (a : Int) + 20 ≤ (n : Int) := by omega
      have hz : (a : Int) + 20 = ((a + 20 : Nat) : Int) := by omega
      have C := INS.out a (a + 20) dk HD.out
      rw [← hz] at C
      have C' := Lib.hid C
      clear C hz
      go_wp2_with fail
      refine (C'.out _ S1.out (by omega) hlt HL.out).mono ?_
      rintro e' w' ⟨rfl, d2, ⟨q1, q2⟩, S2⟩
      have Q1 := Lib.hid q1
      have Q2 := Lib.hid q2
      have T2 : Aside _ := S2
      clear q1 q2 S2
      go_wp2
      go_roundg (n - (a + 20))
      case measure => omega
      case rel =>
        have hN := HN.out
        have hD := HD.out
        have hA := HA.out
        exact ⟨a + 20, d2, by go_num, (by first | (congr 1; done) | (congr 1; omega)), Lib.hid (by omega), hlt, by omega, Lib.hid (Q1.out.1.trans hD), T2,
          Lib.hid (labI_step HL.out hA (by omega) hlt (by omega) (Or.inl rfl) (by omega) h160 Q1.out Q2.out), Lib.hid (permIn_trans _ _ _ _ _ HP.out (permIn_mono _ _ a (a + 20) 0 n (by omega) hlt (by omega) Q1.out))⟩
    · have hltz : ¬ (a : Int) + 20 ≤ (n : Int) := by omega
      go_wp2_with fail
      refine (INS.out a n dk HD.out _ S1.out han (Nat.le_refl _) HL.out).mono ?_
      rintro e' w' ⟨rfl, d2, ⟨q1, q2⟩, S2⟩
      have Q2 : Hid (Lab tot lo n (labM 40 20 0) d2) := Lib.hid (labI_last (labI_step HL.out HA.out han (Nat.le_refl _) (by omega) (Or.inr rfl) (by have := HN.out; have := HD.out; omega) h160 q1 q2) )
      have Q1 : Hid (PermIn 0 n d d2) := Lib.hid (permIn_trans _ _ _ _ _ HP.out (permIn_mono _ _ a n 0 n (by omega) (Nat.le_refl _) (by have := HN.out; have := HD.out; omega) q1))
      have Q3 : Hid (d2.size = d.size) := Lib.hid (q1.1.trans HD.out)
      have T2 : Aside _ := S2
      clear q1 q2 S2 HL HP HD hltz
      go_wp2_with fail
      go_loopg [6, 7, 8, 9] (160 - 20) (fun g1 vB va vb vm wr => ∃ (B : Nat) (d3 : Array Dt), vB = .int .i64 B ∧ Hid (B = 20 ∨ B = 40 ∨ B = 80 ∨ B = 160) ∧ 20 ≤ B ∧ B ≤ 160 ∧ 160 - B ≤ g1 ∧ Hid (d3.size = d.size) ∧ Aside (SWK encDt 8 w0 blk off d3 wr) ∧ Hid (Lab tot lo n (labM (2 * B) B 0) d3) ∧ Hid (PermIn 0 n d d3))
      case atStart => exact ⟨20, d2, rfl, Lib.hid (Or.inl rfl), by omega, by omega, by omega, Q3, T2, Q2, Q1⟩
      case round =>
        clear Q1 Q2 Q3 T2
        obtain ⟨B, d3, rfl, HB, hB1, hB2, hg2, HD, S1, HL, HP⟩ := hrel
        by_cases hlt : B < n
        · have hltz : (B : Int) < (n : Int) := by omega
          have HB3 : Hid (B = 20 ∨ B = 40 ∨ B = 80) := Lib.hid (by have := HB.out; omega)
          go_wp2
          go_loopg [7, 8] n (fun g3 va vb wr => ∃ (c : Nat) (d4 : Array Dt), va = .int .i64 c ∧ vb = .int .i64 ((c : Int) + 2 * (B : Int)) ∧ Hid (c % (2 * B) = 0) ∧ c ≤ n ∧ n - c ≤ g3 ∧ Hid (d4.size = d.size) ∧ Aside (SWK encDt 8 w0 blk off d4 wr) ∧ Hid (Lab tot lo n (labM (2 * B) B c) d4) ∧ Hid (PermIn 0 n d d4))
          case atStart => exact ⟨0, d3, rfl, by go_num, Lib.hid (by simp), by omega, by omega, HD, S1, HL, HP⟩
          case round =>
            clear HL HP HD S1
            obtain ⟨c, d4, rfl, rfl, HA, hcn, hg3, HD, S1, HL, HP⟩ := hrel
            by_cases hlc : c + 2 * B ≤ n
            · have hlcz : (c : Int) + 2 * (B : Int) ≤ (n : Int) := by omega
              have hz : (c : Int) + 2 * (B : Int) = ((c + 2 * B : Nat) : Int) := by omega
              have hz2 : (c : Int) + (B : Int) = ((c + B : Nat) : Int) := by omega
              have C := MRG.out c (c + B) (c + 2 * B) d4 HD.out
              rw [← hz, ← hz2] at C
              have C' := Lib.hid C
              clear C hz hz2
              go_wp2_with fail
              refine (C'.out _ S1.out (by omega) (by omega) hlc (labM_halves HL.out HB3.out HA.out (by omega) hlc (by omega) h160)).mono ?_
              rintro e' w' ⟨rfl, d5, ⟨q1, q2⟩, S2⟩
              have Q1 := Lib.hid q1
              have Q2 := Lib.hid q2
              have T2 : Aside _ := S2
              clear q1 q2 S2
              go_wp2
              go_roundg (n - (c + 2 * B))
              case measure => omega
              case rel =>
                have hN := HN.out
                have hD := HD.out
                exact ⟨c + 2 * B, d5, (by first | (congr 1; done) | (congr 1; omega)), (by first | (congr 1; done) | (congr 1; omega)), Lib.hid (by rw [Nat.add_mod_right]; exact HA.out), hlc, by omega, Lib.hid (Q1.out.1.trans hD), T2,
                  Lib.hid (labM_step HL.out HB3.out HA.out (by omega) hlc (by omega) (Or.inl rfl) (by omega) h160 Q1.out Q2.out), Lib.hid (permIn_trans _ _ _ _ _ HP.out (permIn_mono _ _ c (c + 2 * B) 0 n (by omega) hlc (by omega) Q1.out))⟩
            · have hlcz : ¬ (c : Int) + 2 * (B : Int) ≤ (n : Int) := by omega
              by_cases hm : c + B < n
              · have hmz : (c : Int) + (B : Int) < (n : Int) := by omega
                have hz2 : (c : Int) + (B : Int) = ((c + B : Nat) : Int) := by omega
                have C := MRG.out c (c + B) n d4 HD.out
                rw [← hz2] at C
                have C' := Lib.hid C
                clear C hz2
                go_wp2_with fail
                refine (C'.out _ S1.out (by omega) hm (Nat.le_refl _) (labM_halves HL.out HB3.out HA.out (by omega) (Nat.le_refl _) (by omega) h160)).mono ?_
                rintro e' w' ⟨rfl, d5, ⟨q1, q2⟩, S2⟩
                have L2 : Hid (Lab tot lo n (labM (2 * (2 * B)) (2 * B) 0) d5) := Lib.hid (by
                  have hN := HN.out
                  have hD := HD.out
                  have L := labM_step HL.out HB3.out HA.out hcn (Nat.le_refl _) (by omega) (Or.inr rfl) (by omega) h160 q1 q2
                  exact labM_whole L HB3.out HA.out (by omega) (by omega) h160)
                have Q1 : Hid (PermIn 0 n d d5) := Lib.hid (permIn_trans _ _ _ _ _ HP.out (permIn_mono _ _ c n 0 n (by omega) (Nat.le_refl _) (by have := HN.out; have := HD.out; omega) q1))
                have Q3 : Hid (d5.size = d.size) := Lib.hid (q1.1.trans HD.out)
                have T2 : Aside _ := S2
                clear q1 q2 S2
                go_wp2
                go_roundg (160 - 2 * B)
                case measure => omega
                case rel => exact ⟨2 * B, d5, (by first | (congr 1; done) | (congr 1; omega)), Lib.hid (by have := HB3.out; omega), by omega, by have := HB3.out; omega, by omega, Q3, T2, L2, Q1⟩
              · have hmz : ¬ (c : Int) + (B : Int) < (n : Int) := by omega
                have L2 : Hid (Lab tot lo n (labM (2 * (2 * B)) (2 * B) 0) d4) := Lib.hid (labM_next HL.out HB3.out HA.out (by omega) h160)
                go_wp2
                go_roundg (160 - 2 * B)
                case measure => omega
                case rel => exact ⟨2 * B, d4, (by first | (congr 1; done) | (congr 1; omega)), Lib.hid (by have := HB3.out; omega), by omega, by have := HB3.out; omega, by omega, HD, S1, L2, HP⟩
        · have hltz : ¬ (B : Int) < (n : Int) := by omega
          go_wp2
          go_end0
          exact ⟨rfl, d3, ⟨HP.out, labM_sorted HL.out (by omega) (by omega)⟩, S1.out⟩

set_option maxHeartbeats 16000000 in
set_option maxRecDepth 100000 in
/-- slices.SortStableFunc -/
theorem sortStable_s (cf : Dt → Dt → Int) (tot : Dt → Dt → Bool) (lo : Dt → Dt → Prop) (O : Ordd (ltOf cf) tot lo) (g : Nat) (cb : Array Value) (blk off cap : Nat) (d : Array Dt) (w : World)
    (eg : ∀ args w, (callFunc g args).run Tryz.prog w = .ok (.enter g args) w) (hcmp : CmpLays Tryz.prog g cb encDt 8 cf blk off d.size w) (R : RowK encDt 8 w blk off d)
    (h160 : d.size ≤ 160) (H : ∀ i j, i < j → j < d.size → lo d[i]! d[j]!) :
    Calls Tryz.prog 91 #[.slice (some ⟨blk, off, none⟩) d.size cap, .func (.func g) #[] cb] w
      (Left w blk off fun d' => PermIn 0 d.size d d' ∧ SortedIn tot 0 d.size d') := by
  have C := Lib.hid (fun w' (S : SWK encDt 8 w blk off d w') => stable_s cf tot lo O g cb blk off cap d.size d d w w' eg hcmp R rfl S rfl h160 H)
  have S0 : Aside (SWK encDt 8 w blk off d w) := SW.start R.hH
  clear H hcmp
  go_enter Tryz.func91, Tryz.ntmps91
  go_wp2_with fail
  refine (C.out _ S0.out).mono ?_
  rintro e' w' ⟨rfl, d2, ⟨q1, q2⟩, S2⟩
  have Q1 := Lib.hid q1
  have Q2 := Lib.hid q2
  have T2 : Aside _ := S2
  clear q1 q2 S2
  go_wp2
  go_end0
  exact ⟨rfl, d2, ⟨Q1.out, Q2.out⟩, T2.out⟩
end Go.Proofs.YtldillnjnjkkgaaGreatDoor
