/- math/bits.Div64: the quotient and the remainder of a number of two words by one. -/
import Derived.Test.YtalnocdgmcchaaaDoorShelf
import Derived.Test.YtalnocdgmcchaaaDoorDivP
import Derived.Lib.Hide
import Derived.Deep.CutRange
import Derived.Deep.CutBlock
import Derived.Deep.QuietTactic
import Derived.BigQuiet
namespace Go.Proofs.YtalnocdgmcchaaaDoor
open Go.RowKit
set_option linter.unusedSimpArgs false
set_option linter.unusedVariables false

theorem ret_two {k : IntKind} {a b c d : Int} (h : a = b) (h2 : c = d) : Ending.returned (.tuple #[.int k a, .int k c]) = .returned (.tuple #[.int k b, .int k d]) := by rw [h, h2]
theorem guess_facts {A u Y n1 n0 : Nat} (N : Norm Y n1 n0) (hA : A < Y) (hu : u < 4294967296) : ∃ D R E : Nat, (A : Int) / (n1 : Int) = (D : Int) ∧ IntKind.u64.wrap ((D : Int) * (n1 : Int)) = (E : Int) ∧ (A : Int) - (E : Int) = (R : Int) ∧ IntKind.u64.wrap ((A : Int) - (E : Int)) = (R : Int) ∧ D ≤ 4294967297 ∧ R < n1 ∧ E ≤ A ∧ Guess A u Y n1 n0 D R := by
  have G := Guess.first (a := A) (u := u) N hu
  have hY := N.lt
  have hsum := G.sum
  have hR : A % n1 < n1 := Nat.mod_lt _ (by have := N.ge; omega)
  have hn := N.n1lt
  refine ⟨A / n1, A % n1, A / n1 * n1, by simp, ?_, ?_, ?_, G.le N hA, hR, by omega, G⟩
  · rw [IntKind.wrap_u64, show ((A / n1 : Nat) : Int) * (n1 : Int) = ((A / n1 * n1 : Nat) : Int) by simp]; omega
  · omega
  · rw [IntKind.wrap_u64]; omega
theorem rest_facts {a u Y q : Nat} (hY : Y < 18446744073709551616) (hu : u < 4294967296) (h1 : q * Y ≤ a * 4294967296 + u) (h2 : a * 4294967296 + u < (q + 1) * Y) :
    ∃ x1 x2 x3 r : Nat, IntKind.u64.wrap ((a : Int) * 4294967296) = (x1 : Int) ∧ (x1 : Int) + (u : Int) = (x2 : Int) ∧ IntKind.u64.wrap ((x1 : Int) + (u : Int)) = (x2 : Int) ∧ IntKind.u64.wrap ((q : Int) * (Y : Int)) = (x3 : Int) ∧ IntKind.u64.wrap ((x2 : Int) - (x3 : Int)) = (r : Int) ∧ r = a * 4294967296 + u - q * Y ∧ r < Y ∧ x2 < 18446744073709551616 ∧ x3 < 18446744073709551616 := by
  obtain ⟨h3, h4⟩ := rest_wrap hY h1 h2
  refine ⟨a * 4294967296 % 18446744073709551616, a * 4294967296 % 18446744073709551616 + u, q * Y % 18446744073709551616, a * 4294967296 + u - q * Y, ?_, ?_, ?_, ?_, ?_, rfl, h4, by omega, Nat.mod_lt _ (by decide)⟩
  · rw [IntKind.wrap_u64]; omega
  · omega
  · rw [IntKind.wrap_u64]; omega
  · rw [IntKind.wrap_u64, show (q : Int) * (Y : Int) = ((q * Y : Nat) : Int) by simp]; omega
  · rw [IntKind.wrap_u64, ← h3, show (q : Int) * (Y : Int) = ((q * Y : Nat) : Int) by simp]
    generalize q * Y = P
    omega

set_option maxHeartbeats 4000000 in
set_option maxRecDepth 100000 in
theorem div64_small (lo y : Nat) (w : World) (h1 : 0 < y) (hy : y < 18446744073709551616) (hlo : lo < 18446744073709551616) :
    Calls Tryd.prog 46 #[.int .u64 0, .int .u64 lo, .int .u64 y] w fun e w' => e = .returned (.tuple #[.int .u64 (lo / y : Nat), .int .u64 (lo % y : Nat)]) ∧ ∃ n, w' = w.drewN n := by
  have b0 : ((y : Int) == 0) = false := by rw [beq_eq_false_iff_ne]; omega
  have b1 : ¬ (y : Int) ≤ 0 := by omega
  have b3 : ¬ y = 0 := by omega
  go_enter Tryd.func46, Tryd.ntmps46
  go_wp2_with fail
  go_quiet (fail)
  go_wp2
  go_ret2
  have d1 := Nat.div_le_self lo y
  exact ⟨ret_two (by rw [IntKind.wrap_u64, show (lo : Int) / (y : Int) = ((lo / y : Nat) : Int) by simp]; generalize lo / y = Q at *; omega) (by simp), ⟨_, rfl⟩⟩

set_option maxHeartbeats 4000000 in
set_option maxRecDepth 100000 in
theorem div64_big (hi lo y : Nat) (w : World) (h0 : 0 < hi) (h1 : hi < y) (hy : y < 18446744073709551616) (hlo : lo < 18446744073709551616) :
    Calls Tryd.prog 46 #[.int .u64 hi, .int .u64 lo, .int .u64 y] w fun e w' => e = .returned (.tuple #[.int .u64 ((hi * 18446744073709551616 + lo) / y : Nat), .int .u64 ((hi * 18446744073709551616 + lo) % y : Nat)]) ∧ w = w' := by
  have b0 : ((y : Int) == 0) = false := by rw [beq_eq_false_iff_ne]; omega
  have b1 : ¬ (y : Int) ≤ (hi : Int) := by omega
  have b2 : ((hi : Int) == 0) = false := by rw [beq_eq_false_iff_ne]; omega
  obtain ⟨s, hs, hlead, hs1, hs2⟩ := lead (y := y) (by omega) hy
  obtain ⟨p1, p2⟩ := parts (s := s) (by omega) h1 hlo
  -- the names
  obtain ⟨Y, hY⟩ : ∃ Y, Y = y * 2 ^ s := ⟨_, rfl⟩
  obtain ⟨b, hb⟩ : ∃ b, b = lo / 2 ^ (64 - s) := ⟨_, rfl⟩
  obtain ⟨A, hA⟩ : ∃ A, A = hi * 2 ^ s + b := ⟨_, rfl⟩
  obtain ⟨L, hL⟩ : ∃ L, L = lo * 2 ^ s % 18446744073709551616 := ⟨_, rfl⟩
  rw [← hb, ← hA, ← hL] at p1
  rw [← hb, ← hA, ← hY] at p2
  rw [← hY] at hs1 hs2
  have hLlt : L < 18446744073709551616 := by rw [hL]; exact Nat.mod_lt _ (by omega)
  have N : Norm Y (Y / 4294967296) (Y % 4294967296) := ⟨by omega, hs2, by omega, by omega⟩
  have hb2 : b < 2 ^ s := by
    rw [hb, Nat.div_lt_iff_lt_mul (Nat.pow_pos (by omega)), ← Nat.pow_add, show s + (64 - s) = 64 by omega]
    exact hlo
  have hhi : hi * 2 ^ s < 18446744073709551616 := by omega
  have k1 : IntKind.u64.wrap ((y : Int) * 2 ^ s) = (Y : Int) := by
    rw [IntKind.wrap_u64, show (y : Int) * 2 ^ s = ((y * 2 ^ s : Nat) : Int) by simp, ← hY]; omega
  have k2 : (Y : Int) / 4294967296 = ((Y / 4294967296 : Nat) : Int) := by omega
  have k3 : bits .and .u64 (Y : Int) 4294967295 = ((Y % 4294967296 : Nat) : Int) := by rw [and_low32 _ (by omega) (by omega)]; omega
  have k4 : IntKind.u64.wrap ((hi : Int) * 2 ^ s) = ((hi * 2 ^ s : Nat) : Int) := by
    rw [IntKind.wrap_u64, show (hi : Int) * 2 ^ s = ((hi * 2 ^ s : Nat) : Int) by simp]; omega
  have k5 : (lo : Int) / 2 ^ (64 - s) = (b : Int) := by rw [hb]; simp
  have k6 : bits .or .u64 (((hi * 2 ^ s : Nat) : Int)) (b : Int) = (A : Int) := by rw [or_parts (by omega) hb2 hhi (by omega), ← hA]
  have k7 : IntKind.u64.wrap ((lo : Int) * 2 ^ s) = (L : Int) := by
    rw [IntKind.wrap_u64, show (lo : Int) * 2 ^ s = ((lo * 2 ^ s : Nat) : Int) by simp, hL]; omega
  have k8 : (L : Int) / 4294967296 = ((L / 4294967296 : Nat) : Int) := by omega
  have k9 : bits .and .u64 (L : Int) 4294967295 = ((L % 4294967296 : Nat) : Int) := by rw [and_low32 _ (by omega) (by omega)]; omega
  obtain ⟨H, hH⟩ : ∃ H, H = hi * 2 ^ s := ⟨_, rfl⟩
  rw [← hH] at k4 k6
  obtain ⟨n1, hn1⟩ : ∃ n1, n1 = Y / 4294967296 := ⟨_, rfl⟩
  obtain ⟨n0, hn0⟩ : ∃ n0, n0 = Y % 4294967296 := ⟨_, rfl⟩
  obtain ⟨u1, hu1⟩ : ∃ u1, u1 = L / 4294967296 := ⟨_, rfl⟩
  obtain ⟨u0, hu0⟩ : ∃ u0, u0 = L % 4294967296 := ⟨_, rfl⟩
  rw [← hn1] at k2
  rw [← hn0] at k3
  rw [← hu1] at k8
  rw [← hu0] at k9
  rw [← hn1, ← hn0] at N
  have NN := Lib.hid N
  have hn1b := N.n1lt
  have hn0b := N.n0
  have hn1g := N.ge
  have hu1b : u1 < 4294967296 := by omega
  have hu0b : u0 < 4294967296 := by omega
  have PP : Hid ((hi * 18446744073709551616 + lo) * 2 ^ s = A * 18446744073709551616 + (u1 * 4294967296 + u0)) := Lib.hid (by rw [p1]; omega)
  have HY := Lib.hid hY
  clear p1 hY hb hA hL hn1 hn0 hu1 hu0 hH hb2 hhi N
  -- the first guess
  obtain ⟨D, R, E, j1, j2, j3, j4, hDb, hRb, hEA, G⟩ := guess_facts NN.out p2 hu1b
  have bn : ((n1 : Int) == 0) = false := by rw [beq_eq_false_iff_ne]; omega
  have bn1 : ¬ (n1 = 0) := by omega
  have GG := Lib.hid G
  clear G
  go_enter Tryd.func46, Tryd.ntmps46
  go_wp2_with fail
  refine (Tryd.bits_LeadingZeros64 (y : Int) w (by omega) (by omega)).mono ?_
  rintro e w' ⟨rfl, hw⟩
  have hw2 := hw.symm
  clear hw
  subst hw2
  rw [show ((y : Int)).toNat = y from rfl, hlead]
  clear hlead
  go_upto_block 0 with fail
  go_cut [15] from 67 to 85 (fun v wx => ∃ q : Nat, v = .int .u64 q ∧ q < 4294967296 ∧ Hid (q * Y ≤ A * 4294967296 + u1) ∧ Hid (A * 4294967296 + u1 < (q + 1) * Y) ∧ Hid (wx = w))
  case first =>
    go_wp2_with fail
    go_loopg [15, 16] D (fun g vq vr wx => ∃ q r : Nat, vq = .int .u64 q ∧ vr = .int .u64 r ∧ q ≤ g ∧ q ≤ 4294967297 ∧ r < 4294967296 ∧ Hid (Guess A u1 Y n1 n0 q r) ∧ Hid (wx = w))
    case atStart => exact ⟨D, R, rfl, rfl, Nat.le_refl _, hDb, by omega, GG, Lib.hid rfl⟩
    case round =>
      obtain ⟨q, r, rfl, rfl, hqg, hqb, hr, G, HW⟩ := hrel
      obtain ⟨P, hP⟩ : ∃ P, P = q * n0 := ⟨_, rfl⟩
      by_cases c1 : 4294967296 ≤ q
      · have hbig := G.out.big NN.out p2 hu1b c1
        obtain ⟨q', hq'⟩ : ∃ q', q = q' + 1 := ⟨q - 1, by omega⟩
        have e1 : (q : Int) - 1 = (q' : Int) := by omega
        have G2 : Hid (Guess A u1 Y n1 n0 q' (r + n1)) := Lib.hid (by rw [hq'] at hbig; exact Guess.next (by rw [← hq']; exact G.out) hbig)
        have hq1 : q' < q := by omega
        have hq2 : q' ≤ 4294967296 := by omega
        have c1z : (q : Int) ≥ 4294967296 := by omega
        clear hbig hq' hP c1
        by_cases c3 : 4294967296 ≤ r + n1
        · have c3z : (r : Int) + (n1 : Int) ≥ 4294967296 := by omega
          go_wp2
          go_meet
          case rel => exact ⟨q', rfl, digit_lt p2 hu1b (G2.out.stop NN.out hq2 c3), Lib.hid (G2.out.stop NN.out hq2 c3), Lib.hid G2.out.top, HW⟩
        · have c3z : ¬ (r : Int) + (n1 : Int) ≥ 4294967296 := by omega
          go_wp2
          go_roundg q'
          case measure => omega
          case rel => exact ⟨q', r + n1, rfl, by go_num, Nat.le_refl _, by omega, by omega, G2, HW⟩
      · have c1z : ¬ (q : Int) ≥ 4294967296 := by omega
        have hPb : P < 18446744073709551616 := by rw [hP]; exact half_mul (by omega) hn0b
        have hPw : IntKind.u64.wrap ((q : Int) * (n0 : Int)) = (P : Int) := by
          rw [IntKind.wrap_u64, show (q : Int) * (n0 : Int) = ((q * n0 : Nat) : Int) by simp, ← hP]; omega
        have hPz : (q : Int) * (n0 : Int) = (P : Int) := by rw [hP]; simp
        by_cases c2 : P > 4294967296 * r + u1
        · have hbig := (G.out.test NN.out).1 (by rw [← hP]; exact c2)
          have c2z : (P : Int) > 4294967296 * (r : Int) + (u1 : Int) := by omega
          have hpos := Guess.pos hbig
          obtain ⟨q', hq'⟩ : ∃ q', q = q' + 1 := ⟨q - 1, by omega⟩
          have e1 : (q : Int) - 1 = (q' : Int) := by omega
          have G2 : Hid (Guess A u1 Y n1 n0 q' (r + n1)) := Lib.hid (by rw [hq'] at hbig; exact Guess.next (by rw [← hq']; exact G.out) hbig)
          have hq1 : q' < q := by omega
          have hq2 : q' ≤ 4294967296 := by omega
          clear hbig hq' hP
          by_cases c3 : 4294967296 ≤ r + n1
          · have c3z : (r : Int) + (n1 : Int) ≥ 4294967296 := by omega
            go_wp2
            go_meet
            case rel => exact ⟨q', rfl, digit_lt p2 hu1b (G2.out.stop NN.out hq2 c3), Lib.hid (G2.out.stop NN.out hq2 c3), Lib.hid G2.out.top, HW⟩
          · have c3z : ¬ (r : Int) + (n1 : Int) ≥ 4294967296 := by omega
            go_wp2
            go_roundg q'
            case measure => omega
            case rel => exact ⟨q', r + n1, rfl, by go_num, Nat.le_refl _, by omega, by omega, G2, HW⟩
        · have c2z : ¬ (P : Int) > 4294967296 * (r : Int) + (u1 : Int) := by omega
          have hno : Hid (q * Y ≤ A * 4294967296 + u1) := Lib.hid (by
            have h := G.out.test NN.out
            rw [← hP] at h
            exact Nat.le_of_not_lt fun h2 => c2 (h.2 h2))
          clear hP
          go_wp2
          go_meet
          case rel => exact ⟨q, rfl, by omega, hno, Lib.hid G.out.top, HW⟩
  case rest =>
    obtain ⟨q1, rfl, hq1, HL1, HT1, HW⟩ := hcut
    obtain ⟨x1, x2, x3, r1, i1, i2, i3, i4, i5, hr1, hr1b, i6, i7⟩ := rest_facts NN.out.lt hu1b HL1.out HT1.out
    have Hr1 := Lib.hid hr1
    obtain ⟨A0, u10, hA0⟩ : ∃ a b, a = A ∧ b = u1 := ⟨_, _, rfl, rfl⟩
    have HA0 := Lib.hid hA0
    clear j1 j2 j3 j4 hDb hRb hEA GG hr1 hA0
    obtain ⟨D0, R, E0, j1, j2, j3, j4, hDb, hRb, hEA, G⟩ := guess_facts NN.out hr1b hu0b
    have GG := Lib.hid G
    have p2a := p2
    clear G p2
    have p2 := hr1b
    go_upto_block 2 with fail
    go_cut [18] from 102 to 120 (fun v wx => ∃ q : Nat, v = .int .u64 q ∧ q < 4294967296 ∧ Hid (q * Y ≤ r1 * 4294967296 + u0) ∧ Hid (r1 * 4294967296 + u0 < (q + 1) * Y) ∧ Hid (wx = w))
    case first =>
      go_wp2_with fail
      go_loopg [18, 16] D0 (fun g vq vr wx => ∃ q r : Nat, vq = .int .u64 q ∧ vr = .int .u64 r ∧ q ≤ g ∧ q ≤ 4294967297 ∧ r < 4294967296 ∧ Hid (Guess r1 u0 Y n1 n0 q r) ∧ Hid (wx = w))
      case atStart => exact ⟨D0, R, rfl, rfl, Nat.le_refl _, hDb, by omega, GG, HW⟩
      case round =>
        obtain ⟨q, r, rfl, rfl, hqg, hqb, hr, G, HW⟩ := hrel
        obtain ⟨P, hP⟩ : ∃ P, P = q * n0 := ⟨_, rfl⟩
        by_cases c1 : 4294967296 ≤ q
        · have hbig := G.out.big NN.out p2 hu0b c1
          obtain ⟨q', hq'⟩ : ∃ q', q = q' + 1 := ⟨q - 1, by omega⟩
          have e1 : (q : Int) - 1 = (q' : Int) := by omega
          have G2 : Hid (Guess r1 u0 Y n1 n0 q' (r + n1)) := Lib.hid (by rw [hq'] at hbig; exact Guess.next (by rw [← hq']; exact G.out) hbig)
          have hq1 : q' < q := by omega
          have hq2 : q' ≤ 4294967296 := by omega
          have c1z : (q : Int) ≥ 4294967296 := by omega
          clear hbig hq' hP c1
          by_cases c3 : 4294967296 ≤ r + n1
          · have c3z : (r : Int) + (n1 : Int) ≥ 4294967296 := by omega
            go_wp2
            go_meet
            case rel => exact ⟨q', rfl, digit_lt p2 hu0b (G2.out.stop NN.out hq2 c3), Lib.hid (G2.out.stop NN.out hq2 c3), Lib.hid G2.out.top, HW⟩
          · have c3z : ¬ (r : Int) + (n1 : Int) ≥ 4294967296 := by omega
            go_wp2
            go_roundg q'
            case measure => omega
            case rel => exact ⟨q', r + n1, rfl, by go_num, Nat.le_refl _, by omega, by omega, G2, HW⟩
        · have c1z : ¬ (q : Int) ≥ 4294967296 := by omega
          have hPb : P < 18446744073709551616 := by rw [hP]; exact half_mul (by omega) hn0b
          have hPw : IntKind.u64.wrap ((q : Int) * (n0 : Int)) = (P : Int) := by
            rw [IntKind.wrap_u64, show (q : Int) * (n0 : Int) = ((q * n0 : Nat) : Int) by simp, ← hP]; omega
          have hPz : (q : Int) * (n0 : Int) = (P : Int) := by rw [hP]; simp
          by_cases c2 : P > 4294967296 * r + u0
          · have hbig := (G.out.test NN.out).1 (by rw [← hP]; exact c2)
            have c2z : (P : Int) > 4294967296 * (r : Int) + (u0 : Int) := by omega
            have hpos := Guess.pos hbig
            obtain ⟨q', hq'⟩ : ∃ q', q = q' + 1 := ⟨q - 1, by omega⟩
            have e1 : (q : Int) - 1 = (q' : Int) := by omega
            have G2 : Hid (Guess r1 u0 Y n1 n0 q' (r + n1)) := Lib.hid (by rw [hq'] at hbig; exact Guess.next (by rw [← hq']; exact G.out) hbig)
            have hq1 : q' < q := by omega
            have hq2 : q' ≤ 4294967296 := by omega
            clear hbig hq' hP
            by_cases c3 : 4294967296 ≤ r + n1
            · have c3z : (r : Int) + (n1 : Int) ≥ 4294967296 := by omega
              go_wp2
              go_meet
              case rel => exact ⟨q', rfl, digit_lt p2 hu0b (G2.out.stop NN.out hq2 c3), Lib.hid (G2.out.stop NN.out hq2 c3), Lib.hid G2.out.top, HW⟩
            · have c3z : ¬ (r : Int) + (n1 : Int) ≥ 4294967296 := by omega
              go_wp2
              go_roundg q'
              case measure => omega
              case rel => exact ⟨q', r + n1, rfl, by go_num, Nat.le_refl _, by omega, by omega, G2, HW⟩
          · have c2z : ¬ (P : Int) > 4294967296 * (r : Int) + (u0 : Int) := by omega
            have hno : Hid (q * Y ≤ r1 * 4294967296 + u0) := Lib.hid (by
              have h := G.out.test NN.out
              rw [← hP] at h
              exact Nat.le_of_not_lt fun h2 => c2 (h.2 h2))
            clear hP
            go_wp2
            go_meet
            case rel => exact ⟨q, rfl, by omega, hno, Lib.hid G.out.top, HW⟩
    case rest =>
      obtain ⟨q0, rfl, hq0, HL0, HT0, HW0⟩ := hcut
      obtain ⟨y1, y2, y3, r0, i1, i2, i3, i4, i5, hr0, hr0b, i6, i7⟩ := rest_facts NN.out.lt hu0b HL0.out HT0.out
      have Hr0 := Lib.hid hr0
      have hr2 : r0 < 18446744073709551616 := by omega
      clear hr0 j1 j2 j3 j4 hDb hRb hEA GG
      go_wp2
      go_ret2
      have fin := whole PP.out HL1.out (by rw [← Hr1.out]; exact HL0.out) (by rw [← Hr1.out, ← Hr0.out]; exact hr0b)
      rw [← Hr1.out, ← Hr0.out, HY.out, Nat.mul_div_mul_right _ _ (Nat.pow_pos (by omega)), Nat.mul_mod_mul_right] at fin
      have e := Nat.mul_div_cancel ((hi * 18446744073709551616 + lo) % y) (show 0 < 2 ^ s from Nat.pow_pos (by omega))
      rw [fin.2] at e
      refine ⟨ret_two (by rw [fin.1]; omega) ?_, HW0.out.symm⟩
      rw [← e]
      simp
end Go.Proofs.YtalnocdgmcchaaaDoor
