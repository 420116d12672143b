/- Print, ours and the reference's, walked. -/
import Derived.Test.YtalnocdgmcchaaaDoorMoneyA
import Derived.Test.YtalnocdgmcchaaaDoorNum
import Derived.Test.YtalnocdgmcchaaaDoorPlainB
import Derived.Lib.ItoaMem
import Derived.BigQuiet
import Derived.Deep.QuietTactic
namespace Go.Proofs.YtalnocdgmcchaaaDoor
open Go.RowKit
set_option linter.unusedSimpArgs false
set_option linter.unusedVariables false

theorem bytesT : ByteT Tryd.prog 67 5 := ⟨Tryd.underlying67, Tryd.underlying5, by kernel_rfl⟩
def d1 (n : Nat) : UInt8 := UInt8.ofNat (48 + n)
/-- an amount as text -/
def printL (a : Int) : List UInt8 := (if a < 0 then [45] else []) ++ Lib.decDigits (a.natAbs / 100) ++ [46] ++ [d1 (a.natAbs % 100 / 10)] ++ [d1 (a.natAbs % 10)]

/-- so many digits at least -/
def padD (least n : Nat) : List UInt8 := if h : n = 0 ∧ least = 0 then [] else padD (least - 1) (n / 10) ++ [d1 (n % 10)]
termination_by n + least
decreasing_by omega
theorem padD_zero : padD 0 0 = [] := by rw [padD]; simp
theorem padD_step (least n : Nat) (h : ¬ (n = 0 ∧ least = 0)) : padD least n = padD (least - 1) (n / 10) ++ [d1 (n % 10)] := by rw [padD, dif_neg h]
theorem padD_pos : ∀ n : Nat, 0 < n → padD 0 n = Lib.decDigits n
  | n, h => by
    rw [padD_step _ _ (by omega)]
    by_cases h10 : n < 10
    · rw [show n / 10 = 0 by omega, Nat.zero_sub, padD_zero, decDigits_small n h10, show n % 10 = n by omega]; rfl
    · rw [Nat.zero_sub, padD_pos (n / 10) (by omega), decDigits_step n (by omega)]; rfl
termination_by n => n
decreasing_by omega
theorem padD_one (n : Nat) : padD 1 n = Lib.decDigits n := by
  rw [padD_step _ _ (by omega)]
  by_cases h10 : n < 10
  · rw [show n / 10 = 0 by omega, padD_zero, decDigits_small n h10, show n % 10 = n by omega]; rfl
  · rw [padD_pos (n / 10) (by omega), decDigits_step n (by omega)]; rfl
theorem padD_two (n : Nat) (h : n < 100) : padD 2 n = [d1 (n / 10), d1 (n % 10)] := by
  rw [padD_step _ _ (by omega), padD_step _ _ (by omega), show n / 10 / 10 = 0 by omega, show 2 - 1 - 1 = 0 by omega, padD_zero, show n / 10 % 10 = n / 10 by omega]; rfl
theorem d1_wrap (n : Nat) (h : n < 10) : IntKind.u8.wrap (48 + (n : Int)) = ((d1 n).toNat : Int) := by
  rw [IntKind.wrap_u8, d1]
  simp only [UInt8.toNat_ofNat']
  omega
theorem padD_len : ∀ (k least n : Nat), n < 10 ^ k → least ≤ k → (padD least n).length ≤ k
  | 0, least, n, h, hl => by
    simp at h
    rw [h, show least = 0 by omega, padD_zero]; simp
  | k + 1, least, n, h, hl => by
    by_cases h0 : n = 0 ∧ least = 0
    · rw [h0.1, h0.2, padD_zero]; simp
    · rw [padD_step _ _ h0, List.length_append]
      have := padD_len k (least - 1) (n / 10) (by rw [Nat.pow_succ] at h; omega) (by omega)
      simp; omega

set_option maxRecDepth 100000 in
set_option maxHeartbeats 2000000 in
theorem rdigits_any (n least : Nat) (w : World) (hn : n < 10000000000000000000) (hl : least ≤ 2) :
    Calls Tryd.prog 44 #[.int .u64 n, .int .i64 least] w fun e w' => e = .returned (.string ⟨(padD least n).toArray⟩) ∧ Below w.heap.size w w' := by
  have hL0 := padD_len 19 least n (by simpa using hn) (by omega)
  obtain ⟨F, hF⟩ : ∃ F, F = padD least n := ⟨_, rfl⟩
  rw [← hF] at hL0
  have HF := Lib.hid hF
  have HL0 := Lib.hid hL0
  rw [← hF]
  clear hF hL0
  go_enter Tryd.func44, Tryd.ntmps44
  go_wp2
  go_loopg [0, 1, 5] (n + least) (fun gh vn vl vs wr => ∃ (m : Nat) (l : Int) (s : List UInt8), vn = .int .u64 m ∧ vl = .int .i64 l ∧ vs = .string ⟨s.toArray⟩ ∧ m < 10000000000000000000 ∧ l ≤ 2 ∧ -100 ≤ l ∧ Hid (l = (least : Int) - (s.length : Int)) ∧ Hid (F = padD l.toNat m ++ s) ∧ m + l.toNat ≤ gh ∧ Hid (Below w.heap.size w wr))
  case atStart => exact ⟨n, least, [], rfl, rfl, rfl, hn, by omega, by omega, Lib.hid (by simp), Lib.hid (by simpa using HF.out), by simp, Lib.hid (Below.refl _ _)⟩
  case round =>
    obtain ⟨m, l, s, rfl, rfl, rfl, hm, hl2, hl3, HLs, HP, hg, HB⟩ := hrel
    by_cases hgo : m = 0 ∧ l ≤ 0
    · obtain ⟨rfl, hl0⟩ := hgo
      have hz : ¬ l > 0 := by omega
      have HE : Hid (F = s) := Lib.hid (by
        have := HP.out
        rw [show l.toNat = 0 by omega, padD_zero, List.nil_append] at this
        exact this)
      go_wp2
      go_ret
      exact ⟨by rw [HE.out]; rfl, HB.out⟩
    · have hstep := HP.out
      rw [padD_step l.toNat m (by omega)] at hstep
      have hsl : s.length ≤ 19 := by
        have := congrArg List.length HP.out
        rw [List.length_append] at this
        have := HL0.out
        omega
      have HP2 : Hid (F = padD (l - 1).toNat (m / 10) ++ (d1 (m % 10) :: s)) := Lib.hid (by
        rw [show (l - 1).toNat = l.toNat - 1 by omega, hstep]; simp)
      have HLs2 : Hid (l - 1 = (least : Int) - ((d1 (m % 10) :: s).length : Int)) := Lib.hid (by
        have := HLs.out
        simp only [List.length_cons]; omega)
      have hlb : -100 ≤ l - 1 := by
        have := HLs2.out
        simp only [List.length_cons] at this
        omega
      have e1 := d1_wrap (m % 10) (by omega)
      rw [show ((m % 10 : Nat) : Int) = (m : Int) % 10 by omega] at e1
      have e2 : IntKind.u64.wrap (48 + (m : Int) % 10) = 48 + (m : Int) % 10 := by rw [IntKind.wrap_u64]; omega
      have e3 : ((m / 10 : Nat) : Int) = (m : Int) / 10 := by omega
      have HE3 := Lib.hid e3
      generalize d1 (m % 10) = c at *
      have HN : Hid (Below w.heap.size w (wr.alloc (.cells #[.int .u8 (c.toNat : Int)] 5))) := Lib.hid (HB.out.alloc HB.out.size _)
      have hconv := (Buf.new (e := 5) (B := w.heap.size) (a := w) HB.out HB.out.size [c] (cs := #[.int .u8 (c.toNat : Int)]) rfl (n := 1) rfl (by simp)).text bytesT Tryd.underlying9
      have hadd := fun W => run_string_add_sum (P := Tryd.prog) (w := W) (⟨[c].toArray⟩ : ByteArray) (⟨s.toArray⟩ : ByteArray) (by simp [ByteArray.size]; omega)
      have hcat : (⟨[c].toArray⟩ : ByteArray) ++ (⟨s.toArray⟩ : ByteArray) = ⟨(c :: s).toArray⟩ := by apply WideShapes.bytes_inj; simp
      rw [hcat] at hadd
      clear hstep hsl e3 hcat HB HP
      rcases Nat.eq_zero_or_pos m with h0 | h0
      · subst h0
        have hlp : l > 0 := by omega
        have hc : c.toNat = 48 := by
          rw [IntKind.wrap_u8] at e1
          simp at e1
          omega
        obtain rfl : c = 48 := UInt8.toNat_inj.1 hc
        have hconv2 : (convert 67 9 (.slice (some ⟨wr.heap.size, 0, none⟩) 1 1)).run Tryd.prog (wr.alloc (.cells #[.int .u8 48] 5)) = .ok (.string ⟨#[48]⟩) (wr.alloc (.cells #[.int .u8 48] 5)) := hconv
        have hadd2 : ∀ W, (Op.stringOp .add (⟨#[48]⟩ : ByteArray) (⟨s.toArray⟩ : ByteArray)).run Tryd.prog W = .ok (.string ⟨((48 : UInt8) :: s).toArray⟩) W := hadd
        have HN2 : Hid (Below w.heap.size w (wr.alloc (.cells #[.int .u8 48] 5))) := HN
        clear hgo e1 e2 hc hconv hadd HN
        go_wp2
        go_roundg (0 / 10 + (l - 1).toNat)
        case measure => omega
        case rel => exact ⟨0 / 10, l - 1, 48 :: s, rfl, rfl, rfl, by omega, by omega, hlb, HLs2, HP2, Nat.le_refl _, HN2⟩
      · have hmp : (m : Int) > 0 := by omega
        clear hgo
        go_wp2
        go_roundg (m / 10 + (l - 1).toNat)
        case measure => omega
        case rel => exact ⟨m / 10, l - 1, c :: s, by rw [HE3.out], rfl, rfl, by omega, by omega, hlb, HLs2, HP2, Nat.le_refl _, HN⟩

theorem printL_len (a : Int) (h0 : -9223372036854775808 ≤ a) (h1 : a ≤ 9223372036854775807) : (Lib.decDigits (a.natAbs / 100)).length ≤ 19 := by
  rw [← padD_one]
  exact padD_len 19 1 _ (by have : a.natAbs / 100 < 10 ^ 19 := by (have : a.natAbs ≤ 9223372036854775808 := by omega); omega
                            exact this) (by omega)

set_option maxRecDepth 100000 in
set_option maxHeartbeats 2000000 in
theorem rprint_any (a : Int) (w : World) (h0 : -9223372036854775808 ≤ a) (h1 : a ≤ 9223372036854775807) :
    Calls Tryd.prog 27 #[.int .i64 a] w fun e w' => e = .returned (.string ⟨(printL a).toArray⟩) ∧ Below w.heap.size w w' := by
  obtain ⟨n, hn⟩ : ∃ n, n = a.natAbs := ⟨_, rfl⟩
  have hnb : n ≤ 9223372036854775808 := by omega
  have C1 := Lib.hid (fun w => rdigits_any (n / 100) 1 w (by omega) (by omega))
  have C2 := Lib.hid (fun w => rdigits_any (n % 100) 2 w (by omega) (by omega))
  rw [padD_one] at C1
  rw [padD_two _ (by omega)] at C2
  have e1 : ((n / 100 : Nat) : Int) = (n : Int) / 100 := by omega
  have e2 : ((n % 100 : Nat) : Int) = (n : Int) % 100 := by omega
  rw [e1] at C1
  rw [e2] at C2
  have hlen := printL_len a h0 h1
  rw [← hn] at hlen
  obtain ⟨D, hD⟩ : ∃ D, D = Lib.decDigits (n / 100) := ⟨_, rfl⟩
  rw [← hD] at hlen C1
  have HPL : Hid (printL a = (if a < 0 then [45] else []) ++ D ++ [46] ++ [d1 (n % 100 / 10)] ++ [d1 (n % 100 % 10)]) := Lib.hid (by
    rw [printL, ← hn, ← hD, show n % 100 % 10 = n % 10 by omega])
  generalize d1 (n % 100 / 10) = x at *
  generalize d1 (n % 100 % 10) = y at *
  clear hD e1 e2
  by_cases hs : a < 0
  · have k1 : IntKind.u64.wrap (0 - IntKind.u64.wrap a) = (n : Int) := by rw [IntKind.wrap_u64, IntKind.wrap_u64]; omega
    have k2 : IntKind.u64.wrap (-IntKind.u64.wrap a) = (n : Int) := by rw [IntKind.wrap_u64, IntKind.wrap_u64]; omega
    have HP2 : Hid (printL a = 45 :: (D ++ [46, x, y])) := Lib.hid (by rw [HPL.out, if_pos hs]; simp)
    clear hn HPL
    go_enter Tryd.func27, Tryd.ntmps27
    go_wp2_with fail
    refine (C1.out _).mono ?_
    rintro e w' ⟨rfl, hb1⟩
    have A1 := fun W => run_string_add_sum (P := Tryd.prog) (w := W) (⟨#[45]⟩ : ByteArray) (⟨D.toArray⟩ : ByteArray) (by simp [ByteArray.size]; omega)
    have A1e : (⟨#[45]⟩ : ByteArray) ++ (⟨D.toArray⟩ : ByteArray) = ⟨(45 :: D).toArray⟩ := by apply WideShapes.bytes_inj; simp
    rw [A1e] at A1
    have A2 := fun W => run_string_add_sum (P := Tryd.prog) (w := W) (⟨(45 :: D).toArray⟩ : ByteArray) (⟨#[46]⟩ : ByteArray) (by simp [ByteArray.size]; omega)
    have A2e : (⟨(45 :: D).toArray⟩ : ByteArray) ++ (⟨#[46]⟩ : ByteArray) = ⟨(45 :: (D ++ [46])).toArray⟩ := by apply WideShapes.bytes_inj; simp
    rw [A2e] at A2
    have HB1 := Lib.hid hb1
    clear A1e A2e hb1
    go_wp2_with fail
    refine (C2.out _).mono ?_
    rintro e w2 ⟨rfl, hb2⟩
    have A3 := fun W => run_string_add_sum (P := Tryd.prog) (w := W) (⟨(45 :: (D ++ [46])).toArray⟩ : ByteArray) (⟨[x, y].toArray⟩ : ByteArray) (by simp [ByteArray.size]; omega)
    have A3e : (⟨(45 :: (D ++ [46])).toArray⟩ : ByteArray) ++ (⟨[x, y].toArray⟩ : ByteArray) = ⟨(45 :: (D ++ [46, x, y])).toArray⟩ := by apply WideShapes.bytes_inj; simp
    rw [A3e] at A3
    have HB2 := Lib.hid (HB1.out.trans (hb2.mono HB1.out.size))
    clear A3e hb2
    go_wp2
    go_ret
    exact ⟨by rw [HP2.out]; rfl, HB2.out⟩
  · have k1 : IntKind.u64.wrap a = (n : Int) := by rw [IntKind.wrap_u64]; omega
    have HP2 : Hid (printL a = D ++ [46, x, y]) := Lib.hid (by rw [HPL.out, if_neg hs]; simp)
    clear hn HPL
    go_enter Tryd.func27, Tryd.ntmps27
    go_wp2_with fail
    refine (C1.out _).mono ?_
    rintro e w' ⟨rfl, hb1⟩
    have A1 := fun W => run_string_add_sum (P := Tryd.prog) (w := W) (⟨#[]⟩ : ByteArray) (⟨D.toArray⟩ : ByteArray) (by simp [ByteArray.size]; omega)
    have A1e : (⟨#[]⟩ : ByteArray) ++ (⟨D.toArray⟩ : ByteArray) = ⟨D.toArray⟩ := by apply WideShapes.bytes_inj; simp
    rw [A1e] at A1
    have A2 := fun W => run_string_add_sum (P := Tryd.prog) (w := W) (⟨D.toArray⟩ : ByteArray) (⟨#[46]⟩ : ByteArray) (by simp [ByteArray.size]; omega)
    have A2e : (⟨D.toArray⟩ : ByteArray) ++ (⟨#[46]⟩ : ByteArray) = ⟨(D ++ [46]).toArray⟩ := by apply WideShapes.bytes_inj; simp
    rw [A2e] at A2
    have HB1 := Lib.hid hb1
    clear A1e A2e hb1
    go_wp2_with fail
    refine (C2.out _).mono ?_
    rintro e w2 ⟨rfl, hb2⟩
    have A3 := fun W => run_string_add_sum (P := Tryd.prog) (w := W) (⟨(D ++ [46]).toArray⟩ : ByteArray) (⟨[x, y].toArray⟩ : ByteArray) (by simp [ByteArray.size]; omega)
    have A3e : (⟨(D ++ [46]).toArray⟩ : ByteArray) ++ (⟨[x, y].toArray⟩ : ByteArray) = ⟨(D ++ [46, x, y]).toArray⟩ := by apply WideShapes.bytes_inj; simp
    rw [A3e] at A3
    have HB2 := Lib.hid (HB1.out.trans (hb2.mono HB1.out.size))
    clear A3e hb2
    go_wp2
    go_ret
    exact ⟨by rw [HP2.out]; rfl, HB2.out⟩

theorem tdiv_abs (a : Int) : (a.tdiv 100).natAbs = a.natAbs / 100 ∧ (a.tmod 100).natAbs = a.natAbs % 100 := by
  rw [Int.natAbs_tdiv, Int.natAbs_tmod]
  exact ⟨rfl, rfl⟩

set_option maxRecDepth 100000 in
set_option maxHeartbeats 2000000 in
theorem print_core (a q r : Int) (w : World) (h0 : -9223372036854775808 ≤ a) (h1 : a ≤ 9223372036854775807) (hE : Env w) (hq : a.tdiv 100 = q) (hr : a.tmod 100 = r) :
    Calls Tryd.prog 25 #[.int .i64 a] w fun e w' => e = .returned (.string ⟨(printL a).toArray⟩) ∧ Below w.heap.size w w' := by
  obtain ⟨n, hn⟩ : ∃ n, n = a.natAbs := ⟨_, rfl⟩
  have hnb : n ≤ 9223372036854775808 := by omega
  obtain ⟨t1, t2⟩ := tdiv_abs a
  rw [hq, ← hn] at t1
  rw [hr, ← hn] at t2
  have C1 := Lib.hid (fun w => size_any q w (by omega) (by omega))
  have C2 := Lib.hid (fun w => size_any r w (by omega) (by omega))
  rw [t1] at C1
  rw [t2] at C2
  obtain ⟨u, hu⟩ : ∃ u, u = n / 100 := ⟨_, rfl⟩
  obtain ⟨c, hc⟩ : ∃ c, c = n % 100 := ⟨_, rfl⟩
  rw [← hu] at C1
  rw [← hc] at C2
  have qb1 : -100000000000000000 ≤ q := by omega
  have qb2 : q ≤ 100000000000000000 := by omega
  have rb1 : -99 ≤ r := by omega
  have rb2 : r ≤ 99 := by omega
  have wq : wrap64 q = q := by unfold wrap64; omega
  have hlen := printL_len a h0 h1
  rw [← hn, ← hu] at hlen
  have D1 := Lib.hid (fun w hE => decimal_any (u : Int) w (by omega) (by omega) hE)
  have D2 := Lib.hid (fun w hE => decimal_any ((c : Int) / 10) w (by omega) (by omega) hE)
  have D3 := Lib.hid (fun w hE => decimal_any ((c : Int) % 10) w (by omega) (by omega) hE)
  rw [Lib.itoa_nonneg] at D1
  rw [show (c : Int) / 10 = ((c / 10 : Nat) : Int) by omega, Lib.itoa_nonneg, decDigits_small _ (by omega), show ((c / 10 : Nat) : Int) = (c : Int) / 10 by omega] at D2
  rw [show (c : Int) % 10 = ((c % 10 : Nat) : Int) by omega, Lib.itoa_nonneg, decDigits_small _ (by omega), show ((c % 10 : Nat) : Int) = (c : Int) % 10 by omega] at D3
  obtain ⟨D, hD⟩ : ∃ D, D = Lib.decDigits u := ⟨_, rfl⟩
  rw [← hD] at hlen D1
  have HPL : Hid (printL a = (if a < 0 then [45] else []) ++ D ++ [46] ++ [UInt8.ofNat (48 + c / 10)] ++ [UInt8.ofNat (48 + c % 10)]) := Lib.hid (by
    rw [printL, ← hn, ← hu, ← hD, hc, show n % 100 % 10 = n % 10 by omega]; rfl)
  have hcb : c < 100 := by omega
  generalize UInt8.ofNat (48 + c / 10) = x at *
  generalize UInt8.ofNat (48 + c % 10) = y at *
  have HE := Lib.hid hE
  obtain ⟨sn, hsn⟩ : ∃ sn : List UInt8, sn = if a < 0 then [45] else [] := ⟨_, rfl⟩
  rw [← hsn] at HPL
  have hsl : sn.length ≤ 1 := by rw [hsn]; split <;> simp
  have hqr : Hid (a.tdiv 100 = q ∧ a.tmod 100 = r) := Lib.hid ⟨hq, hr⟩
  clear hn hD hu hc t1 t2 hE
  by_cases hs : a < 0
  · rw [if_pos hs] at hsn
    subst hsn
    have HP2 : Hid (printL a = 45 :: (D ++ [46, x, y])) := Lib.hid (by rw [HPL.out]; simp)
    have A1 := fun W => run_string_add_sum (P := Tryd.prog) (w := W) (⟨#[45]⟩ : ByteArray) (⟨D.toArray⟩ : ByteArray) (by simp [ByteArray.size]; omega)
    have A1e : (⟨#[45]⟩ : ByteArray) ++ (⟨D.toArray⟩ : ByteArray) = ⟨(45 :: D).toArray⟩ := by apply WideShapes.bytes_inj; simp
    rw [A1e] at A1
    have A2 := fun W => run_string_add_sum (P := Tryd.prog) (w := W) (⟨(45 :: D).toArray⟩ : ByteArray) (⟨#[46]⟩ : ByteArray) (by simp [ByteArray.size]; omega)
    have A2e : (⟨(45 :: D).toArray⟩ : ByteArray) ++ (⟨#[46]⟩ : ByteArray) = ⟨(45 :: (D ++ [46])).toArray⟩ := by apply WideShapes.bytes_inj; simp
    rw [A2e] at A2
    have A3 := fun W => run_string_add_sum (P := Tryd.prog) (w := W) (⟨(45 :: (D ++ [46])).toArray⟩ : ByteArray) (⟨[x].toArray⟩ : ByteArray) (by simp [ByteArray.size]; omega)
    have A3e : (⟨(45 :: (D ++ [46])).toArray⟩ : ByteArray) ++ (⟨[x].toArray⟩ : ByteArray) = ⟨(45 :: (D ++ [46, x])).toArray⟩ := by apply WideShapes.bytes_inj; simp
    rw [A3e] at A3
    have A4 := fun W => run_string_add_sum (P := Tryd.prog) (w := W) (⟨(45 :: (D ++ [46, x])).toArray⟩ : ByteArray) (⟨[y].toArray⟩ : ByteArray) (by simp [ByteArray.size]; omega)
    have A4e : (⟨(45 :: (D ++ [46, x])).toArray⟩ : ByteArray) ++ (⟨[y].toArray⟩ : ByteArray) = ⟨(45 :: (D ++ [46, x, y])).toArray⟩ := by apply WideShapes.bytes_inj; simp
    rw [A4e] at A4
    clear A1e A2e A3e A4e HPL hqr
    go_enter Tryd.func25, Tryd.ntmps25
    go_wp2_with fail
    refine (C1.out _).mono ?_
    rintro e w' ⟨rfl, rfl⟩
    go_wp2_with fail
    refine (C2.out _).mono ?_
    rintro e w' ⟨rfl, rfl⟩
    go_wp2_with fail
    refine (D1.out _ HE.out).mono ?_
    rintro e w1 ⟨rfl, b1⟩
    have B1 := Lib.hid b1
    clear b1
    go_wp2_with fail
    refine (D2.out _ (HE.out.more B1.out)).mono ?_
    rintro e w2 ⟨rfl, b2⟩
    have B2 := Lib.hid (B1.out.trans (b2.mono B1.out.size))
    clear b2
    go_wp2_with fail
    refine (D3.out _ (HE.out.more B2.out)).mono ?_
    rintro e w3 ⟨rfl, b3⟩
    have B3 := Lib.hid (B2.out.trans (b3.mono B2.out.size))
    clear b3
    go_wp2
    go_ret
    exact ⟨by rw [HP2.out]; rfl, B3.out⟩
  · rw [if_neg hs] at hsn
    subst hsn
    have HP2 : Hid (printL a = D ++ [46, x, y]) := Lib.hid (by rw [HPL.out]; simp)
    have A1 := fun W => run_string_add_sum (P := Tryd.prog) (w := W) (⟨#[]⟩ : ByteArray) (⟨D.toArray⟩ : ByteArray) (by simp [ByteArray.size]; omega)
    have A1e : (⟨#[]⟩ : ByteArray) ++ (⟨D.toArray⟩ : ByteArray) = ⟨D.toArray⟩ := by apply WideShapes.bytes_inj; simp
    rw [A1e] at A1
    have A2 := fun W => run_string_add_sum (P := Tryd.prog) (w := W) (⟨D.toArray⟩ : ByteArray) (⟨#[46]⟩ : ByteArray) (by simp [ByteArray.size]; omega)
    have A2e : (⟨D.toArray⟩ : ByteArray) ++ (⟨#[46]⟩ : ByteArray) = ⟨(D ++ [46]).toArray⟩ := by apply WideShapes.bytes_inj; simp
    rw [A2e] at A2
    have A3 := fun W => run_string_add_sum (P := Tryd.prog) (w := W) (⟨(D ++ [46]).toArray⟩ : ByteArray) (⟨[x].toArray⟩ : ByteArray) (by simp [ByteArray.size]; omega)
    have A3e : (⟨(D ++ [46]).toArray⟩ : ByteArray) ++ (⟨[x].toArray⟩ : ByteArray) = ⟨(D ++ [46, x]).toArray⟩ := by apply WideShapes.bytes_inj; simp
    rw [A3e] at A3
    have A4 := fun W => run_string_add_sum (P := Tryd.prog) (w := W) (⟨(D ++ [46, x]).toArray⟩ : ByteArray) (⟨[y].toArray⟩ : ByteArray) (by simp [ByteArray.size]; omega)
    have A4e : (⟨(D ++ [46, x]).toArray⟩ : ByteArray) ++ (⟨[y].toArray⟩ : ByteArray) = ⟨(D ++ [46, x, y]).toArray⟩ := by apply WideShapes.bytes_inj; simp
    rw [A4e] at A4
    have hqz : a / 100 = q := by have := hqr.out.1; rw [Int.tdiv_eq_ediv_of_nonneg (by omega)] at this; exact this
    have hrz : a % 100 = r := by have := hqr.out.2; rw [Int.tmod_eq_emod_of_nonneg (by omega)] at this; exact this
    clear A1e A2e A3e A4e HPL hqr
    go_enter Tryd.func25, Tryd.ntmps25
    go_wp2_with fail
    refine (C1.out _).mono ?_
    rintro e w' ⟨rfl, rfl⟩
    go_wp2_with fail
    refine (C2.out _).mono ?_
    rintro e w' ⟨rfl, rfl⟩
    go_wp2_with fail
    refine (D1.out _ HE.out).mono ?_
    rintro e w1 ⟨rfl, b1⟩
    have B1 := Lib.hid b1
    clear b1
    go_wp2_with fail
    refine (D2.out _ (HE.out.more B1.out)).mono ?_
    rintro e w2 ⟨rfl, b2⟩
    have B2 := Lib.hid (B1.out.trans (b2.mono B1.out.size))
    clear b2
    go_wp2_with fail
    refine (D3.out _ (HE.out.more B2.out)).mono ?_
    rintro e w3 ⟨rfl, b3⟩
    have B3 := Lib.hid (B2.out.trans (b3.mono B2.out.size))
    clear b3
    go_wp2
    go_ret
    exact ⟨by rw [HP2.out]; rfl, B3.out⟩
theorem print_any (a : Int) (w : World) (h0 : -9223372036854775808 ≤ a) (h1 : a ≤ 9223372036854775807) (hE : Env w) :
    Calls Tryd.prog 25 #[.int .i64 a] w fun e w' => e = .returned (.string ⟨(printL a).toArray⟩) ∧ Below w.heap.size w w' := print_core a _ _ w h0 h1 hE rfl rfl
end Go.Proofs.YtalnocdgmcchaaaDoor
