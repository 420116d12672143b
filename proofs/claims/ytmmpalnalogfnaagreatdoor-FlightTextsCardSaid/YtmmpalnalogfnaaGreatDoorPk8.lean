/- Words and walks that the laws below ask: RDec, TxtA, TxtB, TxtR, TxtC, TxtW, PerUA. -/
import Derived.Lib.ItoaLen
import Derived.Maps.AppendAt
import Derived.RangeFuncCalls
import Derived.OrdersIn
import Derived.OwnWalkIn
import Derived.OrdersHeld
import Derived.Deep.RegionHeld
import Derived.KernelRfl
import Derived.RangeFuncWrites
import Derived.Test.YtmmpalnalogfnaaGreatDoorPk1
import Derived.Test.YtmmpalnalogfnaaGreatDoorPk2
import Derived.Test.YtmmpalnalogfnaaGreatDoorPk3
import Derived.Test.YtmmpalnalogfnaaGreatDoorPk4
import Derived.Test.YtmmpalnalogfnaaGreatDoorPk5
import Derived.Test.YtmmpalnalogfnaaGreatDoorPk6
import Derived.Test.YtmmpalnalogfnaaGreatDoorPk7
/- Walks of the reference: digits, Decimal (a copy of TextG that stands without the rest of stage 1). -/
namespace Go.Proofs.YtmmpalnalogfnaaGreatDoor
open Go.RowKit
set_option linter.unusedSimpArgs false
set_option linter.unusedVariables false

def tenA : ByteArray := ⟨#[48, 49, 50, 51, 52, 53, 54, 55, 56, 57]⟩
theorem ten_all : ∀ n : Fin 10, (tenA.extract n.val (n.val + 1)).data.toList = [UInt8.ofNat (48 + n.val)] := by decide +kernel
theorem ten_cut (n m : Nat) (h : n < 10) (hm : m = n + 1) : (⟨#[48, 49, 50, 51, 52, 53, 54, 55, 56, 57]⟩ : ByteArray).extract n m = ⟨[UInt8.ofNat (48 + n)].toArray⟩ := by
  subst hm
  exact WideShapes.bytes_inj (ten_all ⟨n, h⟩)

theorem quiet_ex {P : Program} {f : FuncId} {args : Array Value} {w : World} {n : Nat} {v : Value} (h : ∀ W, Calls P f args W fun e w' => e = .returned v ∧ ∃ m, w' = W.drewN m) :
    Calls P f args (w.drewN n) fun e w'' => e = .returned v ∧ ∃ m, w'' = w.drewN m :=
  (h _).mono fun _ _ ⟨he, m, hm⟩ => ⟨he, n + m, by rw [hm, World.drewN_drewN]⟩
theorem dec_len (u : Nat) (h : u ≤ 9223372036854775807) : (⟨(Lib.decDigits u).toArray⟩ : ByteArray).size ≤ 21 := by
  have h1 := Lib.itoa_length_le (u : Int) (by omega) (by omega)
  have h2 : Lib.itoa (u : Int) = Lib.decDigits u := by
    unfold Lib.itoa
    rw [if_neg (by omega)]
    congr 1
  rw [h2] at h1
  simpa [ByteArray.size] using h1
def U64 (n : Nat) : Prop := n < 18446744073709551616
theorem u64_div (n : Nat) (h : U64 n) : IntKind.u64.wrap ((n : Int) / 10) = (n : Int) / 10 := by rw [IntKind.wrap_u64]; unfold U64 at h; omega

set_option maxRecDepth 100000 in
set_option maxHeartbeats 1000000 in
theorem rdigits_any : ∀ (n : Nat) (w : World), U64 n →
    Calls Tryz.prog 105 #[.int .u64 n] w fun e w' => e = .returned (.string ⟨(Lib.decDigits n).toArray⟩) ∧ ∃ k, w' = w.drewN k
  | n, w, hn => by
    by_cases h : n < 10
    · have HD : Hid (Lib.decDigits n = [UInt8.ofNat (48 + n)]) := Lib.hid (decDigits_small n h)
      have b1 : (n : Int) < 10 := by omega
      have HC := Lib.hid (ten_cut n (n + 1) h rfl)
      go_enter Tryz.func105, Tryz.ntmps105
      go_wp2
      go_ret
      exact ⟨by rw [HD.out, ← HC.out]; rfl, 0, rfl⟩
    · have ih : ∀ w, Calls Tryz.prog 105 #[.int .u64 ((n : Int) / 10)] w fun e w' => e = .returned (.string ⟨(Lib.decDigits (n / 10)).toArray⟩) ∧ ∃ k, w' = w.drewN k := by
        intro w
        rw [show ((n : Int) / 10) = ((n / 10 : Nat) : Int) from by omega]
        exact rdigits_any (n / 10) w (by unfold U64 at hn ⊢; omega)
      have HIH := Lib.hid ih
      have e1 := u64_div n hn
      have e2 : ((n : Int)).tmod 10 = (n : Int) % 10 := Int.tmod_eq_emod_of_nonneg (by omega)
      have e3 : IntKind.u64.wrap ((n : Int) % 10 + 1) = (n : Int) % 10 + 1 := by rw [IntKind.wrap_u64]; omega
      have HF : Hid ((⟨(Lib.decDigits (n / 10)).toArray⟩ : ByteArray) ++ (⟨#[48, 49, 50, 51, 52, 53, 54, 55, 56, 57]⟩ : ByteArray).extract ((n : Int) % 10).toNat ((n : Int) % 10 + 1).toNat = ⟨(Lib.decDigits n).toArray⟩) := Lib.hid (by
        rw [ten_cut ((n : Int) % 10).toNat ((n : Int) % 10 + 1).toNat (by omega) (by omega), decDigits_step n (by omega)]
        apply WideShapes.bytes_inj
        rw [show ((n : Int) % 10).toNat = n % 10 from by omega]
        simp)
      have hadd := fun W => run_string_add_sum (P := Tryz.prog) (w := W) (⟨(Lib.decDigits (n / 10)).toArray⟩ : ByteArray) ((⟨#[48, 49, 50, 51, 52, 53, 54, 55, 56, 57]⟩ : ByteArray).extract ((n : Int) % 10).toNat ((n : Int) % 10 + 1).toNat) (by
        have h1 := dec_len (n / 10) (by unfold U64 at hn; omega)
        have h2 : ((⟨#[48, 49, 50, 51, 52, 53, 54, 55, 56, 57]⟩ : ByteArray).extract ((n : Int) % 10).toNat ((n : Int) % 10 + 1).toNat).size ≤ 10 := by
          rw [ByteArray.size_extract]; show min _ 10 - _ ≤ 10; omega
        omega)
      clear ih hn
      have b1 : ¬ (n : Int) < 10 := by omega
      have c1 : (0 : Int) ≤ (n : Int) % 10 := by omega
      have c2 : (n : Int) % 10 < 10 := by omega
      have hsl := fun W => run_slice_string (P := Tryz.prog) W 9 (⟨#[48, 49, 50, 51, 52, 53, 54, 55, 56, 57]⟩ : ByteArray) .u64 .u64 ((n : Int) % 10) ((n : Int) % 10 + 1) Tryz.underlying9 c1 (by omega) (by show (n : Int) % 10 + 1 ≤ 10; omega)
      go_enter Tryz.func105, Tryz.ntmps105
      go_wp2_with (fail)
      go_quiet ((go_at_call 105; exact quiet_ex HIH.out))
      go_wp2
      go_ret
      exact ⟨by rw [← HF.out]; rfl, _, rfl⟩
termination_by n => n
decreasing_by omega

theorem neg_arg (n : Int) (h0 : -9223372036854775808 ≤ n) (hn : n < 0) : IntKind.u64.wrap (IntKind.u64.wrap (wrap64 (-wrap64 (n + 1))) + 1) = (n.natAbs : Int) := by
  have e1 : wrap64 (n + 1) = n + 1 := by unfold wrap64; omega
  have e2 : wrap64 (-(n + 1)) = -(n + 1) := by unfold wrap64; omega
  rw [e1, e2, IntKind.wrap_u64, IntKind.wrap_u64]
  omega
theorem pos_arg (n : Int) (h1 : n ≤ 9223372036854775807) (hn : ¬ n < 0) : IntKind.u64.wrap n = (n.toNat : Int) := by
  rw [IntKind.wrap_u64]
  omega
set_option maxRecDepth 100000 in
set_option maxHeartbeats 1000000 in
theorem rdecimal_any (n : Int) (w : World) (h0 : -9223372036854775808 ≤ n) (h1 : n ≤ 9223372036854775807) :
    Calls Tryz.prog 39 #[.int .i64 n] w fun e w' => e = .returned (.string ⟨(Lib.itoa n).toArray⟩) ∧ ∃ k, w' = w.drewN k := by
  by_cases hn : n < 0
  · have HC : Hid (∀ w, Calls Tryz.prog 105 #[.int .u64 (IntKind.u64.wrap (IntKind.u64.wrap (wrap64 (-wrap64 (n + 1))) + 1))] w fun e w' => e = .returned (.string ⟨(Lib.decDigits n.natAbs).toArray⟩) ∧ ∃ k, w' = w.drewN k) := Lib.hid (by
      intro w; rw [neg_arg n h0 hn]; exact rdigits_any n.natAbs w (by unfold U64; omega))
    have HF : Hid ((⟨#[45]⟩ : ByteArray) ++ (⟨(Lib.decDigits n.natAbs).toArray⟩ : ByteArray) = ⟨(Lib.itoa n).toArray⟩) := Lib.hid (by
      apply WideShapes.bytes_inj
      unfold Lib.itoa
      rw [if_pos hn]
      simp)
    have hlen : (⟨#[45]⟩ : ByteArray).size + (⟨(Lib.decDigits n.natAbs).toArray⟩ : ByteArray).size ≤ 9223372036854775807 := by
      have h2 := Lib.itoa_length_le n h0 h1
      unfold Lib.itoa at h2
      rw [if_pos hn] at h2
      have h3 : (⟨(Lib.decDigits n.natAbs).toArray⟩ : ByteArray).size = (Lib.decDigits n.natAbs).length := by simp [ByteArray.size]
      have h4 : (⟨#[45]⟩ : ByteArray).size = 1 := rfl
      simp only [List.length_cons] at h2
      omega
    have hadd := fun W => run_string_add_sum (P := Tryz.prog) (w := W) (⟨#[45]⟩ : ByteArray) (⟨(Lib.decDigits n.natAbs).toArray⟩ : ByteArray) hlen
    clear h0 h1 hlen
    go_enter Tryz.func39, Tryz.ntmps39
    go_wp2_with (go_at_call 105; refine (HC.out _).mono ?_; rintro e w' ⟨rfl, k, rfl⟩)
    go_ret
    exact ⟨by rw [← HF.out]; rfl, k, rfl⟩
  · have HC : Hid (∀ w, Calls Tryz.prog 105 #[.int .u64 (IntKind.u64.wrap n)] w fun e w' => e = .returned (.string ⟨(Lib.decDigits n.toNat).toArray⟩) ∧ ∃ k, w' = w.drewN k) := Lib.hid (by
      intro w; rw [pos_arg n h1 hn]; exact rdigits_any n.toNat w (by unfold U64; omega))
    have HF : Hid ((⟨(Lib.decDigits n.toNat).toArray⟩ : ByteArray) = ⟨(Lib.itoa n).toArray⟩) := Lib.hid (by
      unfold Lib.itoa
      rw [if_neg hn])
    clear h0 h1
    go_enter Tryz.func39, Tryz.ntmps39
    go_wp2_with (go_at_call 105; refine (HC.out _).mono ?_; rintro e w' ⟨rfl, k, rfl⟩)
    go_ret
    exact ⟨by rw [← HF.out]; rfl, k, rfl⟩
end Go.Proofs.YtmmpalnalogfnaaGreatDoor

/- Walk of the reference's Print of a flight. -/
namespace Go.Proofs.YtmmpalnalogfnaaGreatDoor
open Go.RowKit Go.Shelf
set_option linter.unusedSimpArgs false
set_option linter.unusedVariables false

theorem r01air_any (s : ByteArray) (w : World) (hs : s.size ≤ maxLen) : Calls Tryz.prog 41 #[.string s] w fun e w' => e = .returned (.bool (capsB s 3)) ∧ w = w' := by
  go_enter Tryz.func41, Tryz.ntmps41
  go_wp2_with (go_at_call 107; refine (letters_any _ _ _ hs).mono ?_; rintro e w' ⟨rfl, rfl⟩)
  go_ret
  exact ⟨rfl, rfl⟩
theorem rdecB_any (n : Int) (w : World) (h0 : -9223372036854775808 ≤ n) (h1 : n ≤ 9223372036854775807) :
    Calls Tryz.prog 39 #[.int .i64 n] w fun e w' => e = .returned (.string (decT n)) ∧ Below w.heap.size w w' :=
  (rdecimal_any n w h0 h1).mono (by rintro e w' ⟨rfl, k, rfl⟩; exact ⟨rfl, below_drewN (Below.refl _ _) k⟩)
/-- the first fault of the head is the error of Print -/
theorem hd_first (f : FV) : (hdR f = [] → prE f = lgE f.lg ∧ numB f.num = true ∧ cntB f.lg.length = true ∧ carB f.car = true ∧ Per.errQ (f.pf, f.pt, f.pd) = 0) ∧ (∀ x r, hdR f = x :: r → prE f = x.1 ∧ prE f ≠ 0) := by
  unfold hdR hdF prE
  cases h1 : carB f.car with
  | false => exact ⟨fun h => by simp [pick, okE] at h, fun x r h => by simp [pick, okE] at h; rw [← h.1]; simp⟩
  | true =>
    cases h2 : numB f.num with
    | false => exact ⟨fun h => by simp [pick, okE] at h, fun x r h => by simp [pick, okE] at h; rw [← h.1]; simp⟩
    | true =>
      by_cases h3 : Per.errQ (f.pf, f.pt, f.pd) = 0
      · cases h4 : cntB f.lg.length with
        | false => exact ⟨fun h => by simp [pick, okE, h3] at h, fun x r h => by simp [pick, okE, h3] at h; rw [← h.1]; simp [h3]⟩
        | true => exact ⟨fun h => by simp [h3], fun x r h => by simp [pick, okE, h3] at h⟩
      · exact ⟨fun h => by simp [pick, okE, h3] at h, fun x r h => by simp [pick, okE, h3] at h; rw [← h.1]; simp [h3]⟩
set_option maxRecDepth 100000 in
set_option maxHeartbeats 8000000 in
theorem rfprint_any (f : FV) (w : World) (hG : LegL w (.slice f.A f.lg.length f.c) f.lg) (hc0 : f.car.size ≤ maxLen) (ho : ∀ x ∈ f.lg, OkG x) :
    Calls Tryz.prog 12 #[encFl f] w fun e w' => e = .returned (.tuple #[.string (prS f), .int .i64 (prE f)]) ∧ Below w.heap.size w w' := by
  obtain ⟨PW, hPW⟩ : ∃ P : Nat → List ByteArray, P = fun k => prW f k := ⟨_, rfl⟩
  have HSU : Hid (∀ k x, f.lg[k]? = some x → PW (k + 1) = PW k ++ [x.f, x.t, decT x.dep, decT x.arr, x.eq]) := Lib.hid (by rw [hPW]; exact fun k x h => prW_succ h)
  have HLE : Hid (∀ k, (PW k).length ≤ 3 + k * 5) := Lib.hid (by rw [hPW]; exact fun k => prW_len f k)
  have HZ : Hid (prE f = 0 → ((bytesOf (PW f.lg.length)).map List.length).sum ≤ 2000 ∧ prS f = ⟨(joinL (bytesOf (PW f.lg.length))).toArray⟩) := Lib.hid (fun h => ⟨by rw [hPW]; exact prW_sum h, by unfold prS; rw [if_pos h, hPW]; rfl⟩)
  have HNZ : Hid (prE f ≠ 0 → prS f = noB) := Lib.hid (fun h => by unfold prS; rw [if_neg h])
  have HW0 : Hid (PW 0 = [f.car, decT f.num, perT f]) := Lib.hid (by rw [hPW]; simp [prW])
  have HF := Lib.hid (hd_first f)
  have HO := Lib.hid ho
  have KH := Lib.hid (fun W => rhead_any f W hc0)
  have KPP := Lib.hid (show ∀ W, Calls Tryz.prog 40 #[.agg #[.int .i64 f.pf, .int .i64 f.pt, .int .i64 f.pd]] W fun e w' => e = .returned (.string (perT f)) ∧ Below W.heap.size W w' from fun W => Per.rpprint_any f.pf f.pt f.pd W)
  clear hPW ho hc0
  generalize prE f = pe at *
  generalize prS f = ps at *
  generalize perT f = sp at *
  generalize hdR f = HL at *
  have hb0 := bel_alloc w (.cells #[.string f.car, .int .i64 f.num, .int .i64 f.pf, .int .i64 f.pt, .int .i64 f.pd, .slice f.A f.lg.length f.c] fliT)
  have q0 := (cells_new w #[.string f.car, .int .i64 f.num, .int .i64 f.pf, .int .i64 f.pt, .int .i64 f.pd, .slice f.A f.lg.length f.c] fliT 0).trans (show _ = some (.string f.car) from rfl)
  have q1 := (cells_new w #[.string f.car, .int .i64 f.num, .int .i64 f.pf, .int .i64 f.pt, .int .i64 f.pd, .slice f.A f.lg.length f.c] fliT 1).trans (show _ = some (.int .i64 f.num) from rfl)
  have q2 := (cells_new w #[.string f.car, .int .i64 f.num, .int .i64 f.pf, .int .i64 f.pt, .int .i64 f.pd, .slice f.A f.lg.length f.c] fliT 2).trans (show _ = some (.int .i64 f.pf) from rfl)
  have q3 := (cells_new w #[.string f.car, .int .i64 f.num, .int .i64 f.pf, .int .i64 f.pt, .int .i64 f.pd, .slice f.A f.lg.length f.c] fliT 3).trans (show _ = some (.int .i64 f.pt) from rfl)
  have q4 := (cells_new w #[.string f.car, .int .i64 f.num, .int .i64 f.pf, .int .i64 f.pt, .int .i64 f.pd, .slice f.A f.lg.length f.c] fliT 4).trans (show _ = some (.int .i64 f.pd) from rfl)
  have q5 := (cells_new w #[.string f.car, .int .i64 f.num, .int .i64 f.pf, .int .i64 f.pt, .int .i64 f.pd, .slice f.A f.lg.length f.c] fliT 5).trans (show _ = some (.slice f.A f.lg.length f.c) from rfl)
  have HG := Lib.hid (hG.more hb0)
  clear hG
  go_enter Tryz.func12, Tryz.ntmps12
  go_upto_region 1 with fail
  generalize hw5 : w.alloc (.cells #[.string f.car, .int .i64 f.num, .int .i64 f.pf, .int .i64 f.pt, .int .i64 f.pd, .slice f.A f.lg.length f.c] fliT) = w5 at *
  clear hw5
  have f0 := bel_get q0
  have f1 := bel_get q1
  have f2 := bel_get q2
  have f3 := bel_get q3
  have f4 := bel_get q4
  have f5 := bel_get q5
  have KH2 : Hid (Calls Tryz.prog 38 #[encFl f] w5 fun e w' => ∃ A c, e = .returned (.slice A HL.length c) ∧ FltL w' (.slice A HL.length c) HL ∧ SW w5 w') := Lib.hid ((KH.out w5).mono (by
    rintro e w' ⟨v, rfl, hO, hb⟩
    have hr := hO.rowL rtF.len
    obtain ⟨A, c, rfl, _⟩ := id hr
    exact ⟨A, c, rfl, hr, hb⟩))
  clear KH
  cases hHL : HL with
  | cons x r =>
    rw [hHL] at KH2 HF
    obtain ⟨e1, e2⟩ := HF.out.2 x r rfl
    have e3 := HNZ.out e2
    clear HF HZ HNZ HSU HLE HW0 hHL
    obtain ⟨xe, xa⟩ := x
    obtain ⟨m, hm⟩ : ∃ m, m = ((xe, xa) :: r).length := ⟨_, rfl⟩
    have hm0 : 0 < m := by rw [hm]; simp
    have h0 : (0 : Int) < (m : Int) := by omega
    have KH3 : Hid (Calls Tryz.prog 38 #[encFl f] w5 fun e w' => ∃ b o c, e = .returned (.slice (some ⟨b, o, none⟩) m c) ∧ w'.cell? ⟨b, o, none⟩ = some (.int .i64 xe) ∧ SW w5 w') := Lib.hid (KH2.out.mono (by
      rintro e w' ⟨A, c, rfl, hr, hS⟩
      obtain ⟨b, o, rfl, _, hc⟩ := hr.at rfl (show 0 < ((xe, xa) :: r).length by simp)
      have c0 := hc 0 (.int .i64 xe) rfl
      exact ⟨b, o, c, by rw [hm], by simpa using c0, hS⟩))
    have e1' : pe = xe := e1
    clear KH2 hm e1
    have k0 := q0
    have k1 := q1
    have k2 := q2
    have k3 := q3
    have k4 := q4
    have k5 := q5
    go_wp2_with (go_at_call 38; refine KH3.out.mono ?_; rintro e w1 ⟨b1, o1, c1, rfl, hc1, hS1⟩)
    clear k0 k1 k2 k3 k4 k5 q0 q1 q2 q3 q4 q5 f0 f1 f2 f3 f4 f5
    have g1 := SW.cell hc1
    have hNe : Nonempty (Wd (SW w1)) := ⟨⟨_, SW.drew _⟩⟩
    refine quietS (S := SW w1) (by kernel_rfl) (by kernel_rfl) (SW.drew _) ?_
    repeat (first | go_big_quiet_skip | (go_big_quiet_want; go_big_quiet_op; first | go_big_quiet_on | go_big_quiet_call ((fail))))
    refine wpQuiet_nil ?_
    rintro W ⟨⟨_, hW⟩, rfl⟩
    have HSW : Hid (Below w.heap.size w W) := Lib.hid (hb0.trans (Below.mono (Below.trans hS1 (Below.mono hW hS1.size)) hb0.size))
    clear g1 hc1
    go_wp2
    exact bodyPost_ret (results_tmp2 rfl _ _ _) rfl ⟨by rw [e1', e3]; rfl, HSW.out⟩
  | nil =>
    rw [hHL] at KH2 HF
    obtain ⟨e1, e2, e3, e4, e5⟩ := HF.out.1 rfl
    have hcb := cnt_bd e3
    have hnb := num_bd e2
    subst e1
    simp only [List.length_nil] at KH2
    clear HF hHL e2 e3 e4 e5
    have KD1 : Hid (∀ W, SW w5 W → Calls Tryz.prog 39 #[.int .i64 f.num] W fun e w' => e = .returned (.string (decT f.num)) ∧ SW w5 w') :=
      Lib.hid (SW.call (fun W h => rdecB_any f.num W (by omega) (by omega)))
    have KP1 : Hid (∀ W, SW w5 W → Calls Tryz.prog 40 #[.agg #[.int .i64 f.pf, .int .i64 f.pt, .int .i64 f.pd]] W fun e w' => e = .returned (.string sp) ∧ SW w5 w') :=
      Lib.hid (SW.call (fun W h => KPP.out W))
    clear hnb
    have k0 := q0
    have k1 := q1
    have k2 := q2
    have k3 := q3
    have k4 := q4
    have k5 := q5
    go_upto_region 4 with (go_at_call 38; refine KH2.out.mono ?_; rintro e w1 ⟨A1, c1, rfl, hr1, hS1⟩)
    clear k0 k1 k2 k3 k4 k5 q0 q1 q2 q3 q4 q5 hr1
    generalize decT f.num = sn at *
    have hS : (SW w5) _ := Below.drew hS1
    refine wp_region_held_drew (S := SW w5) (by kernel_rfl) hS (fun _ => ?_)
    refine wpAnyH_take (i := 0) (v := ?vP0) rfl (by kernel_rfl) (by kernel_rfl) (by kernel_rfl) (fun _ _ _ h => h) (Or.inl ⟨by rfl, ?hyP0⟩) hS ?restP0
    case hyP0 =>
      intro w hSw
      first | (go_simp; done) | (go_simp; with_reducible rfl)
    try simp only [Act.put, List.setIfInBounds_toArray, List.set_cons_zero, List.set_cons_succ]
    refine wpAnyH_take (i := 1) (v := ?vP1) rfl (by kernel_rfl) (by kernel_rfl) (by kernel_rfl) (fun _ _ _ h => h) (Or.inl ⟨by rfl, ?hyP1⟩) hS ?restP1
    case hyP1 =>
      intro w hSw
      have k0 := f0 w hSw
      first | (go_simp; done) | (go_simp; with_reducible rfl)
    try simp only [Act.put, List.setIfInBounds_toArray, List.set_cons_zero, List.set_cons_succ]
    refine wpAnyH_take (i := 2) (v := ?vP2) rfl (by kernel_rfl) (by kernel_rfl) (by kernel_rfl) (fun _ _ _ h => h) (Or.inl ⟨by rfl, ?hyP2⟩) hS ?restP2
    case hyP2 =>
      intro w hSw
      first | (go_simp; done) | (go_simp; with_reducible rfl)
    try simp only [Act.put, List.setIfInBounds_toArray, List.set_cons_zero, List.set_cons_succ]
    refine wpAnyH_take (i := 3) (v := ?vP3) rfl (by kernel_rfl) (by kernel_rfl) (by kernel_rfl) (fun _ _ _ h => h) (Or.inl ⟨by rfl, ?hyP3⟩) hS ?restP3
    case hyP3 =>
      intro w hSw
      have k0 := f1 w hSw
      first | (go_simp; done) | (go_simp; with_reducible rfl)
    try simp only [Act.put, List.setIfInBounds_toArray, List.set_cons_zero, List.set_cons_succ]
    refine wpAnyH_take (i := 5) (v := ?vP5) rfl (by kernel_rfl) (by kernel_rfl) (by kernel_rfl) (fun _ _ _ h => h) (Or.inl ⟨by rfl, ?hyP5⟩) hS ?restP5
    case hyP5 =>
      intro w hSw
      first | (go_simp; done) | (go_simp; with_reducible rfl)
    try simp only [Act.put, List.setIfInBounds_toArray, List.set_cons_zero, List.set_cons_succ]
    refine wpAnyH_take (i := 6) (v := ?vP6) rfl (by kernel_rfl) (by kernel_rfl) (by kernel_rfl) (fun _ _ _ h => h) (Or.inl ⟨by rfl, ?hyP6⟩) hS ?restP6
    case hyP6 =>
      intro w hSw
      have k0 := f2 w hSw; have k1 := f3 w hSw; have k2 := f4 w hSw
      first | (go_simp; done) | (go_simp; with_reducible rfl)
    try simp only [Act.put, List.setIfInBounds_toArray, List.set_cons_zero, List.set_cons_succ]
    refine wpAnyH_ready (rs := [4]) (by kernel_rfl) (by simp) ?_
    refine AllReadyH.cons rfl (fun K hK => ?_) AllReadyH.nil
    go_simp
    go_wp2_with ((go_at_call 39; with_reducible refine (KD1.out _ hS).mono ?_; rintro e w2 ⟨rfl, hS⟩))
    refine hK.out _ _ hS (fun _ => ?_)
    clear hK K
    refine wpAnyH_ready (rs := [7]) (by kernel_rfl) (by simp) ?_
    refine AllReadyH.cons rfl (fun K hK => ?_) AllReadyH.nil
    go_simp
    go_wp2_with ((go_at_call 40; with_reducible refine (KP1.out _ hS).mono ?_; rintro e w2 ⟨rfl, hS⟩))
    refine hK.out _ _ hS (fun _ => ?_)
    clear hK K
    refine wpAnyH_ready (rs := [8]) (by kernel_rfl) (by simp) ?_
    refine AllReadyH.cons rfl (fun K hK => ?_) AllReadyH.nil
    go_simp
    have hSp := hS
    have hS : SW w5 _ := Below.trans hS (Below.mono (bel_alloc w2 (.cells #[.string f.car, .string sn, .string sp] 9)) hS.size)
    refine hK.out _ _ hS (fun _ => ?_)
    clear hK K
    refine wpAnyH_take (i := 9) (v := ?vP9) rfl (by kernel_rfl) (by kernel_rfl) (by kernel_rfl) (fun _ _ _ h => h) (Or.inl ⟨by rfl, ?hyP9⟩) hS ?restP9
    case hyP9 =>
      intro w hSw
      first | (go_simp; done) | (go_simp; with_reducible rfl)
    try simp only [Act.put, List.setIfInBounds_toArray, List.set_cons_zero, List.set_cons_succ]
    refine wpAnyH_done (by kernel_rfl) ?_ _
    simp only [List.getElem_toArray, List.getElem_cons_succ, List.getElem_cons_zero, List.set_cons_zero, List.set_cons_succ]
    generalize hw6 : w2.alloc (.cells #[.string f.car, .string sn, .string sp] 9) = w6 at *
    have HL : Hid (ROwn 9 1 encS w5.heap.size w6 (.slice (some ⟨w2.heap.size, 0, none⟩) 3 3) (PW 0)) := Lib.hid (by
      rw [HW0.out, ← hw6]
      exact ROwn.new (enc := encS) (sz := 1) hSp.size [f.car, sn, sp] rtS.len rfl (by show 3 ≤ 1000000; omega))
    have hS6 : SW w5 w6 := hS
    clear HW0 KD1 KP1 hw6
    have F5 := Lib.hid f5
    clear f0 f1 f2 f3 f4 f5
    have z5 := F5.out _ hS6
    go_wp2
    go_loopg [5, 6] f.lg.length (fun kx v5 vi wr => ∃ (v : Value) (k : Nat), v = v5 ∧ vi = .int .i64 k ∧ k + kx = f.lg.length ∧ Hid (lgE (f.lg.drop k) = lgE f.lg) ∧ Hid (ROwn 9 1 encS w5.heap.size wr v (PW k) ∧ SW w5 wr))
    case atStart => exact ⟨_, 0, rfl, rfl, by omega, Lib.hid (by rw [List.drop_zero]), Lib.hid ⟨HL.out, hS6⟩⟩
    case round =>
      obtain ⟨v, k, rfl, rfl, hkx, HK, HH⟩ := hrel
      clear HL
      have HKX := Lib.hid hkx
      have hSr : SW w5 wr := HH.out.2
      have z5r := F5.out _ hSr
      by_cases hlt : k < f.lg.length
      · clear hkx
        obtain ⟨b, o, x, eA, hbl, hx, c0, c1, c2, c3, c4⟩ := LegL.get (HG.out.more hSr) hlt
        rw [eA] at z5r
        have HEA := Lib.hid eA
        clear eA
        have hok := HO.out x (List.mem_of_getElem? hx)
        have HTk := Lib.hid (HSU.out k x hx)
        have HLn : Hid ((PW k).length + 5 ≤ 100000000) := Lib.hid (by have := HLE.out k; omega)
        have HKn : Hid (lgE f.lg = if namB x = true then (if timB x = true then lgE (f.lg.drop (k + 1)) else 2) else 5) := Lib.hid (by rw [← HK.out]; exact lgE_at hx)
        have HV1 : Hid (∀ g, v.ownBlock = some g → w5.heap.size ≤ g ∧ g < wr.heap.size) := Lib.hid (fun g hg => HH.out.1.low hg)
        have hvN : v.ownBlock ≠ some wr.heap.size := fun h => by have := (HV1.out _ h).2; omega
        have hb6 := bel_alloc wr (.cells #[.string x.f, .string x.t, .int .i64 x.dep, .int .i64 x.arr, .string x.eq] legT)
        have HSW : Hid (∀ W, SX (wr.alloc (.cells #[.string x.f, .string x.t, .int .i64 x.dep, .int .i64 x.arr, .string x.eq] legT)) v W → SW w5 W) := Lib.hid (fun W h => Below.trans hSr ((hb6.mono hSr.size).trans (h.below (Nat.le_trans hSr.size hb6.size) (fun k' hk' hv => by have := (HV1.out _ hv).1; omega))))
        have n0 : ∀ W, SX (wr.alloc (.cells #[.string x.f, .string x.t, .int .i64 x.dep, .int .i64 x.arr, .string x.eq] legT)) v W → W.cell? ⟨wr.heap.size, 0, none⟩ = some (Value.string x.f) := fun W h => SX.cell ((cells_new wr #[.string x.f, .string x.t, .int .i64 x.dep, .int .i64 x.arr, .string x.eq] legT 0).trans (show _ = some (Value.string x.f) from rfl)) hvN h
        have n1 : ∀ W, SX (wr.alloc (.cells #[.string x.f, .string x.t, .int .i64 x.dep, .int .i64 x.arr, .string x.eq] legT)) v W → W.cell? ⟨wr.heap.size, 1, none⟩ = some (Value.string x.t) := fun W h => SX.cell ((cells_new wr #[.string x.f, .string x.t, .int .i64 x.dep, .int .i64 x.arr, .string x.eq] legT 1).trans (show _ = some (Value.string x.t) from rfl)) hvN h
        have n2 : ∀ W, SX (wr.alloc (.cells #[.string x.f, .string x.t, .int .i64 x.dep, .int .i64 x.arr, .string x.eq] legT)) v W → W.cell? ⟨wr.heap.size, 2, none⟩ = some (Value.int .i64 x.dep) := fun W h => SX.cell ((cells_new wr #[.string x.f, .string x.t, .int .i64 x.dep, .int .i64 x.arr, .string x.eq] legT 2).trans (show _ = some (Value.int .i64 x.dep) from rfl)) hvN h
        have n3 : ∀ W, SX (wr.alloc (.cells #[.string x.f, .string x.t, .int .i64 x.dep, .int .i64 x.arr, .string x.eq] legT)) v W → W.cell? ⟨wr.heap.size, 3, none⟩ = some (Value.int .i64 x.arr) := fun W h => SX.cell ((cells_new wr #[.string x.f, .string x.t, .int .i64 x.dep, .int .i64 x.arr, .string x.eq] legT 3).trans (show _ = some (Value.int .i64 x.arr) from rfl)) hvN h
        have n4 : ∀ W, SX (wr.alloc (.cells #[.string x.f, .string x.t, .int .i64 x.dep, .int .i64 x.arr, .string x.eq] legT)) v W → W.cell? ⟨wr.heap.size, 4, none⟩ = some (Value.string x.eq) := fun W h => SX.cell ((cells_new wr #[.string x.f, .string x.t, .int .i64 x.dep, .int .i64 x.arr, .string x.eq] legT 4).trans (show _ = some (Value.string x.eq) from rfl)) hvN h
        have i2 : (k : Int) < (f.lg.length : Int) := by omega
        have m0 := (cells_new wr #[.string x.f, .string x.t, .int .i64 x.dep, .int .i64 x.arr, .string x.eq] legT 0).trans (show _ = some (Value.string x.f) from rfl)
        have m1 := (cells_new wr #[.string x.f, .string x.t, .int .i64 x.dep, .int .i64 x.arr, .string x.eq] legT 1).trans (show _ = some (Value.string x.t) from rfl)
        have m2 := (cells_new wr #[.string x.f, .string x.t, .int .i64 x.dep, .int .i64 x.arr, .string x.eq] legT 2).trans (show _ = some (Value.int .i64 x.dep) from rfl)
        have m3 := (cells_new wr #[.string x.f, .string x.t, .int .i64 x.dep, .int .i64 x.arr, .string x.eq] legT 3).trans (show _ = some (Value.int .i64 x.arr) from rfl)
        have m4 := (cells_new wr #[.string x.f, .string x.t, .int .i64 x.dep, .int .i64 x.arr, .string x.eq] legT 4).trans (show _ = some (Value.string x.eq) from rfl)
        have KA1 := Lib.hid (fun W => r01air_any x.f W hok.f)
        have KA2 := Lib.hid (fun W => r01air_any x.t W hok.t)
        have KA3 := Lib.hid (fun W => rcode_any x.eq 3 3 W hok.eq)
        have KO1 := Lib.hid (fun W => rout_any x.dep W)
        have KO2 := Lib.hid (fun W => rout_any x.arr W)
        have HB6 : Hid (Below w.heap.size w (wr.alloc (.cells #[.string x.f, .string x.t, .int .i64 x.dep, .int .i64 x.arr, .string x.eq] legT))) := Lib.hid (hb0.trans (Below.mono (Below.trans hSr (hb6.mono hSr.size)) hb0.size))
        have HO6 := Lib.hid (HH.out.1.more (hb6.trans ((Below.refl _ (wr.alloc (.cells #[.string x.f, .string x.t, .int .i64 x.dep, .int .i64 x.arr, .string x.eq] legT))).drew.mono hb6.size)))
        have HOK := Lib.hid hok
        have KD2 : Hid (∀ W, SX (wr.alloc (.cells #[.string x.f, .string x.t, .int .i64 x.dep, .int .i64 x.arr, .string x.eq] legT)) v W → Calls Tryz.prog 39 #[.int .i64 x.dep] W fun e w' => e = .returned (.string (decT x.dep)) ∧ Below W.heap.size W w') := Lib.hid (fun W h => rdecB_any x.dep W hok.dep.1 hok.dep.2)
        have KD3 : Hid (∀ W, SX (wr.alloc (.cells #[.string x.f, .string x.t, .int .i64 x.dep, .int .i64 x.arr, .string x.eq] legT)) v W → Calls Tryz.prog 39 #[.int .i64 x.arr] W fun e w' => e = .returned (.string (decT x.arr)) ∧ Below W.heap.size W w') := Lib.hid (fun W h => rdecB_any x.arr W hok.arr.1 hok.arr.2)
        generalize decT x.dep = sd at *
        generalize decT x.arr = sa at *
        clear hx hbl hok
        go_upto_region 9 with fail
        generalize hw6 : wr.alloc (.cells #[.string x.f, .string x.t, .int .i64 x.dep, .int .i64 x.arr, .string x.eq] legT) = w6 at *
        clear hw6 c0 c1 c2 c3 c4 hb6
        have HNAM : Hid (namB x = (capsB x.f 3 && (capsB x.t 3 && codeB x.eq 3 3))) := Lib.hid rfl
        have HTIM : Hid (timB x = (minB x.dep && minB x.arr)) := Lib.hid rfl
        cases t1 : capsB x.f 3 with
        | false =>
          rw [t1] at KA1
          have HR : Hid (lgE f.lg = 5) := Lib.hid (by rw [HKn.out, HNAM.out, t1]; rfl)
          have HS := Lib.hid (HNZ.out (by rw [HR.out]; omega))
          clear HKn HNAM HTIM HK HO6
          go_wp2_with (first
            | (go_at_call 43; with_reducible refine (KO2.out _).mono ?_; rintro e w' ⟨rfl, rfl⟩)
            | (go_at_call 43; with_reducible refine (KO1.out _).mono ?_; rintro e w' ⟨rfl, rfl⟩)
            | (go_at_call 42; with_reducible refine (KA3.out _).mono ?_; rintro e w' ⟨rfl, rfl⟩)
            | (go_at_call 41; with_reducible refine (KA2.out _).mono ?_; rintro e w' ⟨rfl, rfl⟩)
            | (go_at_call 41; with_reducible refine (KA1.out _).mono ?_; rintro e w' ⟨rfl, rfl⟩))
          exact bodyPost_ret (results_tmp2 rfl _ _ _) rfl ⟨by rw [HR.out, HS.out]; rfl, HB6.out⟩
        | true =>
        cases t2 : capsB x.t 3 with
        | false =>
          rw [t1] at KA1
          rw [t2] at KA2
          have HR : Hid (lgE f.lg = 5) := Lib.hid (by rw [HKn.out, HNAM.out, t1, t2]; rfl)
          have HS := Lib.hid (HNZ.out (by rw [HR.out]; omega))
          clear HKn HNAM HTIM HK HO6
          go_wp2_with (first
            | (go_at_call 43; with_reducible refine (KO2.out _).mono ?_; rintro e w' ⟨rfl, rfl⟩)
            | (go_at_call 43; with_reducible refine (KO1.out _).mono ?_; rintro e w' ⟨rfl, rfl⟩)
            | (go_at_call 42; with_reducible refine (KA3.out _).mono ?_; rintro e w' ⟨rfl, rfl⟩)
            | (go_at_call 41; with_reducible refine (KA2.out _).mono ?_; rintro e w' ⟨rfl, rfl⟩)
            | (go_at_call 41; with_reducible refine (KA1.out _).mono ?_; rintro e w' ⟨rfl, rfl⟩))
          exact bodyPost_ret (results_tmp2 rfl _ _ _) rfl ⟨by rw [HR.out, HS.out]; rfl, HB6.out⟩
        | true =>
        cases t3 : codeB x.eq 3 3 with
        | false =>
          rw [t1] at KA1
          rw [t2] at KA2
          rw [t3] at KA3
          have HR : Hid (lgE f.lg = 5) := Lib.hid (by rw [HKn.out, HNAM.out, t1, t2, t3]; rfl)
          have HS := Lib.hid (HNZ.out (by rw [HR.out]; omega))
          clear HKn HNAM HTIM HK HO6
          go_wp2_with (first
            | (go_at_call 43; with_reducible refine (KO2.out _).mono ?_; rintro e w' ⟨rfl, rfl⟩)
            | (go_at_call 43; with_reducible refine (KO1.out _).mono ?_; rintro e w' ⟨rfl, rfl⟩)
            | (go_at_call 42; with_reducible refine (KA3.out _).mono ?_; rintro e w' ⟨rfl, rfl⟩)
            | (go_at_call 41; with_reducible refine (KA2.out _).mono ?_; rintro e w' ⟨rfl, rfl⟩)
            | (go_at_call 41; with_reducible refine (KA1.out _).mono ?_; rintro e w' ⟨rfl, rfl⟩))
          exact bodyPost_ret (results_tmp2 rfl _ _ _) rfl ⟨by rw [HR.out, HS.out]; rfl, HB6.out⟩
        | true =>
        cases t4 : minB x.dep with
        | false =>
          rw [t1] at KA1
          rw [t2] at KA2
          rw [t3] at KA3
          rw [t4] at KO1
          have HR : Hid (lgE f.lg = 2) := Lib.hid (by rw [HKn.out, HNAM.out, t1, t2, t3, HTIM.out, t4]; rfl)
          have HS := Lib.hid (HNZ.out (by rw [HR.out]; omega))
          clear HKn HNAM HTIM HK HO6
          go_wp2_with (first
            | (go_at_call 43; with_reducible refine (KO2.out _).mono ?_; rintro e w' ⟨rfl, rfl⟩)
            | (go_at_call 43; with_reducible refine (KO1.out _).mono ?_; rintro e w' ⟨rfl, rfl⟩)
            | (go_at_call 42; with_reducible refine (KA3.out _).mono ?_; rintro e w' ⟨rfl, rfl⟩)
            | (go_at_call 41; with_reducible refine (KA2.out _).mono ?_; rintro e w' ⟨rfl, rfl⟩)
            | (go_at_call 41; with_reducible refine (KA1.out _).mono ?_; rintro e w' ⟨rfl, rfl⟩))
          exact bodyPost_ret (results_tmp2 rfl _ _ _) rfl ⟨by rw [HR.out, HS.out]; rfl, HB6.out⟩
        | true =>
        cases t5 : minB x.arr with
        | false =>
          rw [t1] at KA1
          rw [t2] at KA2
          rw [t3] at KA3
          rw [t4] at KO1
          rw [t5] at KO2
          have HR : Hid (lgE f.lg = 2) := Lib.hid (by rw [HKn.out, HNAM.out, t1, t2, t3, HTIM.out, t4, t5]; rfl)
          have HS := Lib.hid (HNZ.out (by rw [HR.out]; omega))
          clear HKn HNAM HTIM HK HO6
          go_wp2_with (first
            | (go_at_call 43; with_reducible refine (KO2.out _).mono ?_; rintro e w' ⟨rfl, rfl⟩)
            | (go_at_call 43; with_reducible refine (KO1.out _).mono ?_; rintro e w' ⟨rfl, rfl⟩)
            | (go_at_call 42; with_reducible refine (KA3.out _).mono ?_; rintro e w' ⟨rfl, rfl⟩)
            | (go_at_call 41; with_reducible refine (KA2.out _).mono ?_; rintro e w' ⟨rfl, rfl⟩)
            | (go_at_call 41; with_reducible refine (KA1.out _).mono ?_; rintro e w' ⟨rfl, rfl⟩))
          exact bodyPost_ret (results_tmp2 rfl _ _ _) rfl ⟨by rw [HR.out, HS.out]; rfl, HB6.out⟩
        | true =>
        rw [t1] at KA1
        rw [t2] at KA2
        rw [t3] at KA3
        rw [t4] at KO1
        rw [t5] at KO2
        have HKN : Hid (lgE (f.lg.drop (k + 1)) = lgE f.lg) := Lib.hid (by rw [HKn.out, HNAM.out, t1, t2, t3, HTIM.out, t4, t5]; rfl)
        clear t1 t2 t3 t4 t5 HKn HNAM HTIM HK
        go_upto_region 13 with (first
          | (go_at_call 43; with_reducible refine (KO2.out _).mono ?_; rintro e w' ⟨rfl, rfl⟩)
          | (go_at_call 43; with_reducible refine (KO1.out _).mono ?_; rintro e w' ⟨rfl, rfl⟩)
          | (go_at_call 42; with_reducible refine (KA3.out _).mono ?_; rintro e w' ⟨rfl, rfl⟩)
          | (go_at_call 41; with_reducible refine (KA2.out _).mono ?_; rintro e w' ⟨rfl, rfl⟩)
          | (go_at_call 41; with_reducible refine (KA1.out _).mono ?_; rintro e w' ⟨rfl, rfl⟩))
        clear m0 m1 m2 m3 m4 KA1 KA2 KA3 KO1 KO2 z5r
        have hO := HO6.out
        clear HO6
        have hS : (SX w6 v) _ := But.of_below (Below.refl _ _).drew
        refine wp_region_held_drew (S := SX w6 v) (by kernel_rfl) hS (fun _ => ?_)
        refine wpAnyH_take (i := 0) (v := ?vQ0) rfl (by kernel_rfl) (by kernel_rfl) (by kernel_rfl) (fun _ _ _ h => h) (Or.inl ⟨by rfl, ?hyQ0⟩) hS ?restQ0
        case hyQ0 =>
          intro w hSw
          first | (go_simp; done) | (go_simp; with_reducible rfl)
        try simp only [Act.put, List.setIfInBounds_toArray, List.set_cons_zero, List.set_cons_succ]
        refine wpAnyH_take (i := 1) (v := ?vQ1) rfl (by kernel_rfl) (by kernel_rfl) (by kernel_rfl) (fun _ _ _ h => h) (Or.inl ⟨by rfl, ?hyQ1⟩) hS ?restQ1
        case hyQ1 =>
          intro w hSw
          first | (go_simp; done) | (go_simp; with_reducible rfl)
        try simp only [Act.put, List.setIfInBounds_toArray, List.set_cons_zero, List.set_cons_succ]
        refine wpAnyH_take (i := 2) (v := ?vQ2) rfl (by kernel_rfl) (by kernel_rfl) (by kernel_rfl) (fun _ _ _ h => h) (Or.inl ⟨by rfl, ?hyQ2⟩) hS ?restQ2
        case hyQ2 =>
          intro w hSw
          have k0 := n0 w hSw
          first | (go_simp; done) | (go_simp; with_reducible rfl)
        try simp only [Act.put, List.setIfInBounds_toArray, List.set_cons_zero, List.set_cons_succ]
        refine wpAnyH_take (i := 3) (v := ?vQ3) rfl (by kernel_rfl) (by kernel_rfl) (by kernel_rfl) (fun _ _ _ h => h) (Or.inl ⟨by rfl, ?hyQ3⟩) hS ?restQ3
        case hyQ3 =>
          intro w hSw
          first | (go_simp; done) | (go_simp; with_reducible rfl)
        try simp only [Act.put, List.setIfInBounds_toArray, List.set_cons_zero, List.set_cons_succ]
        refine wpAnyH_take (i := 4) (v := ?vQ4) rfl (by kernel_rfl) (by kernel_rfl) (by kernel_rfl) (fun _ _ _ h => h) (Or.inl ⟨by rfl, ?hyQ4⟩) hS ?restQ4
        case hyQ4 =>
          intro w hSw
          have k0 := n1 w hSw
          first | (go_simp; done) | (go_simp; with_reducible rfl)
        try simp only [Act.put, List.setIfInBounds_toArray, List.set_cons_zero, List.set_cons_succ]
        refine wpAnyH_take (i := 5) (v := ?vQ5) rfl (by kernel_rfl) (by kernel_rfl) (by kernel_rfl) (fun _ _ _ h => h) (Or.inl ⟨by rfl, ?hyQ5⟩) hS ?restQ5
        case hyQ5 =>
          intro w hSw
          first | (go_simp; done) | (go_simp; with_reducible rfl)
        try simp only [Act.put, List.setIfInBounds_toArray, List.set_cons_zero, List.set_cons_succ]
        refine wpAnyH_take (i := 6) (v := ?vQ6) rfl (by kernel_rfl) (by kernel_rfl) (by kernel_rfl) (fun _ _ _ h => h) (Or.inl ⟨by rfl, ?hyQ6⟩) hS ?restQ6
        case hyQ6 =>
          intro w hSw
          have k0 := n2 w hSw
          first | (go_simp; done) | (go_simp; with_reducible rfl)
        try simp only [Act.put, List.setIfInBounds_toArray, List.set_cons_zero, List.set_cons_succ]
        refine wpAnyH_take (i := 8) (v := ?vQ8) rfl (by kernel_rfl) (by kernel_rfl) (by kernel_rfl) (fun _ _ _ h => h) (Or.inl ⟨by rfl, ?hyQ8⟩) hS ?restQ8
        case hyQ8 =>
          intro w hSw
          first | (go_simp; done) | (go_simp; with_reducible rfl)
        try simp only [Act.put, List.setIfInBounds_toArray, List.set_cons_zero, List.set_cons_succ]
        refine wpAnyH_take (i := 9) (v := ?vQ9) rfl (by kernel_rfl) (by kernel_rfl) (by kernel_rfl) (fun _ _ _ h => h) (Or.inl ⟨by rfl, ?hyQ9⟩) hS ?restQ9
        case hyQ9 =>
          intro w hSw
          have k0 := n3 w hSw
          first | (go_simp; done) | (go_simp; with_reducible rfl)
        try simp only [Act.put, List.setIfInBounds_toArray, List.set_cons_zero, List.set_cons_succ]
        refine wpAnyH_take (i := 11) (v := ?vQ11) rfl (by kernel_rfl) (by kernel_rfl) (by kernel_rfl) (fun _ _ _ h => h) (Or.inl ⟨by rfl, ?hyQ11⟩) hS ?restQ11
        case hyQ11 =>
          intro w hSw
          first | (go_simp; done) | (go_simp; with_reducible rfl)
        try simp only [Act.put, List.setIfInBounds_toArray, List.set_cons_zero, List.set_cons_succ]
        refine wpAnyH_take (i := 12) (v := ?vQ12) rfl (by kernel_rfl) (by kernel_rfl) (by kernel_rfl) (fun _ _ _ h => h) (Or.inl ⟨by rfl, ?hyQ12⟩) hS ?restQ12
        case hyQ12 =>
          intro w hSw
          have k0 := n4 w hSw
          first | (go_simp; done) | (go_simp; with_reducible rfl)
        try simp only [Act.put, List.setIfInBounds_toArray, List.set_cons_zero, List.set_cons_succ]
        refine wpAnyH_ready (rs := [7]) (by kernel_rfl) (by simp) ?_
        refine AllReadyH.cons rfl (fun K hK => ?_) AllReadyH.nil
        go_simp
        go_wp2_with ((go_at_call 39; with_reducible refine (KD2.out _ hS).mono ?_; rintro e w' ⟨rfl, hb'⟩; have hO := hO.more hb'; have hS := hS.on hb'))
        refine hK.out _ _ hS (fun _ => ?_)
        clear hK K
        refine wpAnyH_ready (rs := [10]) (by kernel_rfl) (by simp) ?_
        refine AllReadyH.cons rfl (fun K hK => ?_) AllReadyH.nil
        go_simp
        go_wp2_with ((go_at_call 39; with_reducible refine (KD3.out _ hS).mono ?_; rintro e w' ⟨rfl, hb'⟩; have hO := hO.more hb'; have hS := hS.on hb'))
        refine hK.out _ _ hS (fun _ => ?_)
        clear hK K
        refine wpAnyH_ready (rs := [13]) (by kernel_rfl) (by simp) ?_
        refine AllReadyH.cons rfl (fun K hK => ?_) AllReadyH.nil
        go_simp
        have hSp := hS
        have hS := hS.on (bel_alloc _ (.cells #[.string x.f, .string x.t, .string sd, .string sa, .string x.eq] 9))
        refine hK.out _ _ hS (fun _ => ?_)
        clear hK K
        refine wpAnyH_ready (rs := [14]) (by kernel_rfl) (by simp) ?_
        refine AllReadyH.cons rfl (fun K hK => ?_) AllReadyH.nil
        refine step_rapps rtS rfl _ _ rfl (hO.alloc (.cells #[.string x.f, .string x.t, .string sd, .string sa, .string x.eq] 9)) rfl w'.heap.size 0 [x.f, x.t, sd, sa, x.eq] 5 _ rfl rfl (by omega) (fun i y j u hi hu => ?_) HLn.out ?_
        · exact five_cells w' _ _ _ _ _ _ i y j u hi hu
        intro v8 w8 hO8 hC8
        go_simp
        have hS := hS.trans hC8.but (fun _ _ h => h)
        refine hK.out _ _ hS (fun _ => ?_)
        clear hK K
        refine wpAnyH_take (i := 15) (v := ?vQ15) rfl (by kernel_rfl) (by kernel_rfl) (by kernel_rfl) (fun _ _ _ h => h) (Or.inl ⟨by rfl, ?hyQ15⟩) hS ?restQ15
        case hyQ15 =>
          intro w hSw
          first | (go_simp; done) | (go_simp; with_reducible rfl)
        try simp only [Act.put, List.setIfInBounds_toArray, List.set_cons_zero, List.set_cons_succ]
        refine wpAnyH_done (by kernel_rfl) ?_ _
        simp only [List.getElem_toArray, List.getElem_cons_succ, List.getElem_cons_zero, List.set_cons_zero, List.set_cons_succ]
        have HY : Hid (ROwn 9 1 encS w5.heap.size w8 v8 (PW (k + 1)) ∧ SW w5 w8) := Lib.hid ⟨by rw [HTk.out]; exact hO8, HSW.out _ hS⟩
        clear hO8 hC8 hS hSp hO
        go_wp2
        go_roundg (f.lg.length - (k + 1))
        case measure => have := HKX.out; omega
        case rel => exact ⟨_, k + 1, rfl, by go_num, by omega, HKN, HY⟩
      · have hk : k = f.lg.length := by omega
        have hO := HH.out.1
        rw [hk] at hO
        have he0 : lgE f.lg = 0 := by rw [← HK.out, hk, List.drop_length]; rfl
        have hz := HZ.out he0
        have hv := RowL.strL (hO.rowL rtS.len)
        have HLn : Hid ((PW f.lg.length).length ≤ 2000) := Lib.hid (by have := HLE.out f.lg.length; omega)
        have KJ := Lib.hid (Txt.rjoin_any v (PW f.lg.length) wr hv HLn.out hz.1)
        have hSw : Below w.heap.size w wr := hb0.trans (Below.mono hSr hb0.size)
        rw [← hz.2] at KJ
        have HE0 := Lib.hid he0
        have i1 : ¬ (k : Int) < (f.lg.length : Int) := by omega
        clear HH hkx hk hO hv hz he0
        go_wp2_with (go_at_call 44; refine KJ.out.mono ?_; rintro e w9 ⟨rfl, hb9⟩)
        exact bodyPost_ret (results_tmp2 rfl _ _ _) rfl ⟨by rw [HE0.out]; rfl, hSw.trans (Below.mono hb9 hSw.size)⟩

end Go.Proofs.YtmmpalnalogfnaaGreatDoor

/- slices.Chunk of a list of texts by five: its iterator's contract. -/
namespace Go.Proofs.YtmmpalnalogfnaaGreatDoor.Per
open Go.RowKit Go.Shelf
set_option linter.unusedSimpArgs false
set_option linter.unusedVariables false
attribute [local go_sem] Oper.semAt_some
attribute [local simp] wide_fn

abbrev strsT : TypeId := 81
/-- the number of a chunk -/
abbrev Ck (m : Nat) := { k : Nat // k < m }
abbrev encC {m : Nat} (b o : Nat) (x : Ck m) : Array Value := #[.slice (some ⟨b, o + 5 * x.1, none⟩) 5 5]
/-- the boxes of the list and of the number five -/
def ChB (W : World) (B : Nat) (v : Value) : Prop := W.heap[B]? = some (.cells #[v] strsT (0, 0)) ∧ W.heap[B + 1]? = some (.cells #[.int .i64 5] 3 (0, 0))
theorem ChB.more {W W' : World} {B : Nat} {v : Value} (h : ChB W B v) (hb : Below W.heap.size W W') : ChB W' B v :=
  ⟨(hb.block B (Array.getElem?_eq_some_iff.1 h.1).1).trans h.1, (hb.block (B + 1) (Array.getElem?_eq_some_iff.1 h.2).1).trans h.2⟩
theorem ChB.c0 {W : World} {B : Nat} {v : Value} (h : ChB W B v) : W.cell? ⟨B, 0, none⟩ = some v := cell_of_row _ _ 0 _ _ (0, 0) h.1
theorem ChB.c1 {W : World} {B : Nat} {v : Value} (h : ChB W B v) : W.cell? ⟨B + 1, 0, none⟩ = some (.int .i64 5) := cell_of_row _ _ 0 _ _ (0, 0) h.2
/-- what a round keeps -/
def KpC (n₀ B : Nat) (W W' : World) : Prop := Below n₀ W W' ∧ W'.heap[B]? = W.heap[B]? ∧ W'.heap[B + 1]? = W.heap[B + 1]?
theorem kpc_t {n₀ B : Nat} {X Y Z : World} (h : KpC n₀ B X Y) (k : KpC n₀ B Y Z) : KpC n₀ B X Z := ⟨h.1.trans k.1, k.2.1.trans h.2.1, k.2.2.trans h.2.2⟩
theorem kpc_b {n₀ B : Nat} {w : World} (hn : n₀ ≤ w.heap.size) (hB : B + 1 < w.heap.size) (W : World) (l : Nat) (o o' : Obj) (hl : w.heap.size ≤ l) (h : W.heap[l]? = some o) (h1 : o.isCells = false) (h2 : o.isWalk = false) : KpC n₀ B W (W.putObj l o') :=
  ⟨belowK_b hn W l o o' hl h h1 h2, World.putObj_heap_other (by omega), World.putObj_heap_other (by omega)⟩
theorem ChB.kept {n₀ : Nat} {W W' : World} {B : Nat} {v : Value} (h : ChB W B v) (hk : KpC n₀ B W W') : ChB W' B v := ⟨hk.2.1.trans h.1, hk.2.2.trans h.2⟩
/-- the numbers of the chunks -/
def cks {m : Nat} (l : List (Ck m)) : List Nat := l.map (·.1)
theorem cks_snoc {m : Nat} (l : List (Ck m)) (x : Ck m) : cks (l ++ [x]) = cks l ++ [x.1] := by simp [cks]
theorem cks_len {m : Nat} (l : List (Ck m)) : (cks l).length = l.length := by simp [cks]

set_option maxRecDepth 100000 in
set_option maxHeartbeats 2000000 in
theorem chunk1_in (l Bn n₀ b o c m : Nat) (J Jx : List (Ck m) → World → Prop) (B0 : Nat) (hJa : AbidesFrom B0 J) (hm : m ≤ 100000) (hc : 5 * m ≤ c)
    (hY : ∀ pre x W, J pre W → pre.length < m → YieldAt Fence.wide 8 Tryz.prog l (encC b o x) W fun e W' =>
      (e = .returned (.bool true) ∧ J (pre ++ [x]) W' ∧ KpC n₀ Bn W W') ∨ (e = .returned (.bool false) ∧ Jx (pre ++ [x]) W'))
    (W : World) (hBn : ChB W Bn (.slice (some ⟨b, o, none⟩) (5 * m) c)) (h0 : J [] W) :
    CallsIn Fence.wide 9 Tryz.prog 171 #[.func (.yield l) #[] #[], .pointer (some ⟨Bn, 0, none⟩), .pointer (some ⟨Bn + 1, 0, none⟩)] W fun e W' => (∃ v, e = .returned v) ∧
      ((∃ ys : List (Ck m), cks ys = List.range m ∧ J ys W') ∨ (∃ pre : List (Ck m), (∃ k, cks pre = List.range k) ∧ Jx pre W')) := by
  refine callsIn_of_wp Tryz.func171 rfl trivial ?_ rfl
  simp only [Tryz.ntmps171, List.size_toArray, List.length_cons, List.length_nil, Nat.reduceAdd, Nat.reduceSub, Array.replicate_succ, Array.replicate_zero, List.push_toArray, List.append_toArray, List.nil_append, List.cons_append]
  have HBN := Lib.hid hBn
  have HY2 : Hid (∀ (k i : Nat) (hk : k < m) (hi : i = 5 * k) (pre : List (Ck m)) W, J pre W → pre.length < m → YieldAt Fence.wide 8 Tryz.prog l #[.slice (some ⟨b, o + i, none⟩) 5 5] W fun e W' =>
      (e = .returned (.bool true) ∧ J (pre ++ [⟨k, hk⟩]) W' ∧ KpC n₀ Bn W W') ∨ (e = .returned (.bool false) ∧ Jx (pre ++ [⟨k, hk⟩]) W')) := Lib.hid (fun k i hk hi pre W h1 h2 => by rw [hi]; exact hY pre ⟨k, hk⟩ W h1 h2)
  clear hY hBn
  obtain ⟨n, hn⟩ : ∃ n, n = 5 * m := ⟨_, rfl⟩
  rw [← hn] at HBN hc
  have HN := Lib.hid hn
  have hnb : n ≤ 500000 := by omega
  clear hn
  gi_wp2
  gi_loopw [4] (fun i wr => ∃ (j k : Nat) (pre : List (Ck m)), j ≤ n ∧ i = .int .i64 (j : Int) ∧ Hid (k ≤ m ∧ j = 5 * k) ∧ Hid (cks pre = List.range k) ∧ J pre wr ∧ ChB wr Bn (.slice (some ⟨b, o, none⟩) n c)) (fun i _ => n - (intOf i).toNat)
  case atStart => exact ⟨0, 0, [], Nat.zero_le _, rfl, Lib.hid ⟨Nat.zero_le _, rfl⟩, Lib.hid rfl, h0, HBN.out⟩
  case round =>
    obtain ⟨j, k, pre, hj, rfl, HK, HP, hJ, hB⟩ := hrel
    have g0 := hB.c0
    have g1 := hB.c1
    by_cases hlt : j < n
    · have hk : k < m := by have := HK.out; have := HN.out; omega
      have h5 : j + 5 ≤ n := by have := HK.out; have := HN.out; omega
      have i0 : (j : Int) < (n : Int) := by omega
      have hpl : pre.length < m := by
        have := congrArg List.length HP.out
        rw [cks_len, List.length_range] at this
        omega
      have i1 : (j : Int) ≤ (c : Int) := by omega
      have i2 : (n : Int) ≤ (c : Int) := by omega
      have i3 : (j : Int) ≤ (n : Int) := by omega
      have i4 : ¬ (c : Int) = (j : Int) := by omega
      have i5 : ¬ c = j := by omega
      have i6 : j < c := by omega
      have i7 : (j : Int) < (c : Int) := by omega
      have i8 : (5 : Int) ≤ ((n - j : Nat) : Int) := by omega
      have i9 : (j : Int) + 5 ≤ (c : Int) := by omega
      have ia : (j : Int) ≤ (j : Int) + 5 := by omega
      have ib : j + 5 ≤ c := by omega
      have ic : (5 : Int) < ((n - j : Nat) : Int) ∨ (5 : Int) = ((n - j : Nat) : Int) := by omega
      have im : min (5 : Int) ((n - j : Nat) : Int) = 5 := by omega
      have g0' : ∀ x : Wd (fun W => J pre W ∧ ChB W Bn (.slice (some ⟨b, o, none⟩) n c)), x.w.cell? ⟨Bn, 0, none⟩ = some (.slice (some ⟨b, o, none⟩) n c) := fun x => x.ok.2.c0
      have g1' : ∀ x : Wd (fun W => J pre W ∧ ChB W Bn (.slice (some ⟨b, o, none⟩) n c)), x.w.cell? ⟨Bn + 1, 0, none⟩ = some (.int .i64 5) := fun x => x.ok.2.c1
      have hI : (fun W => J pre W ∧ ChB W Bn (.slice (some ⟨b, o, none⟩) n c)) wr.drew := ⟨abide_below hJa hJ (Below.refl _ _).drew, hB.more (Below.refl _ _).drew⟩
      clear hlt
      gi_wp2
      have hNe : Nonempty (Wd (fun W => J pre W ∧ ChB W Bn (.slice (some ⟨b, o, none⟩) n c))) := ⟨⟨_, hI⟩⟩
      refine quietSIn (S := fun W => J pre W ∧ ChB W Bn (.slice (some ⟨b, o, none⟩) n c)) rfl (by kernel_rfl) (by kernel_rfl) (hI) ?_
      repeat (first | gi_big_quiet_skip | (gi_big_quiet_want; gi_big_quiet_op; first | go_big_quiet_on | gi_big_quiet_call ((fail))))
      refine wpQuietIn_nil ?_
      rintro W ⟨⟨_, hW⟩, rfl⟩
      obtain ⟨fn, tmps, assign, body, hy, hR⟩ := HY2.out k j hk HK.out.2 pre W hW.1 hpl
      have g2 := hW.2.c0
      have g3 := hW.2.c1
      have HBW := Lib.hid hW.2
      clear g0 g1 g0' g1' hI
      gi_wp2
      refine hR.mono ?_
      rintro e W3 (⟨rfl, hJ3, hk3⟩ | ⟨rfl, hx⟩)
      · have hB3 := HBW.out.kept hk3
        have g4 := hB3.c0
        have g5 := hB3.c1
        gi_wp2
        go_roundw
        case rel => exact ⟨j + 5, k + 1, pre ++ [⟨k, hk⟩], h5, by go_num, Lib.hid ⟨hk, by have := HK.out.2; omega⟩, Lib.hid (by rw [cks_snoc, HP.out, List.range_succ]), hJ3, hB3⟩
        case measure => simp [intOf]; omega
      · gi_wp2
        refine bodyPost_ret (results_none rfl _ _ _) rfl ?_
        exact ⟨⟨_, rfl⟩, .inr ⟨_, ⟨k + 1, by rw [cks_snoc, HP.out, List.range_succ]⟩, hx⟩⟩
    · have i0 : ¬ (j : Int) < (n : Int) := by omega
      have e : k = m := by have := HK.out; have := HN.out; omega
      gi_wp2
      go_end0
      exact ⟨⟨_, rfl⟩, .inl ⟨pre, by rw [HP.out, e], hJ⟩⟩
/-- the contract of the iterator's value -/
theorem chunk_stops (Bn n₀ b o c m : Nat) (hm : m ≤ 100000) (hc : 5 * m ≤ c) (w : World) (hBn : ChB w Bn (.slice (some ⟨b, o, none⟩) (5 * m) c)) :
    SeqStopsK Fence.wide 9 Tryz.prog 171 #[.pointer (some ⟨Bn, 0, none⟩), .pointer (some ⟨Bn + 1, 0, none⟩)] (encC (m := m) b o) (KpC n₀ Bn) (fun ys => cks ys = List.range m) (fun pre => ∃ k, cks pre = List.range k) m w := fun l J Jx W hW hJ _ hY h0 =>
  chunk1_in l Bn n₀ b o c m J Jx W.heap.size hJ hm hc hY W (hBn.more hW) h0
set_option maxHeartbeats 1000000 in
theorem chunk_any (A : Option Addr) (n c : Nat) (w : World) : CallsIn Fence.wide 9 Tryz.prog 118 #[.slice A n c, .int .i64 5] w fun e w' => e = .returned (.func (.func 171) #[] #[.pointer (some ⟨w.heap.size, 0, none⟩), .pointer (some ⟨w.heap.size + 1, 0, none⟩)]) ∧ w' = (w.alloc (.cells #[.slice A n c] strsT)).alloc (.cells #[.int .i64 5] 3) := by
  refine callsIn_of_wp Tryz.func118 rfl trivial ?_ rfl
  simp only [Tryz.ntmps118, List.size_toArray, List.length_cons, List.length_nil, Nat.reduceAdd, Nat.reduceSub, Array.replicate_succ, Array.replicate_zero, List.push_toArray, List.append_toArray, List.nil_append, List.cons_append]
  gi_wp2
  go_ret
  exact ⟨rfl, rfl⟩

end Go.Proofs.YtmmpalnalogfnaaGreatDoor.Per

/- A region that draws its order, in a round of a range over a function: by the lone laws, where it holds no defer. -/
namespace Go.Proofs.YtmmpalnalogfnaaGreatDoor
open Go
set_option linter.unusedVariables false

def noDefer (ops : Array Oper) : Bool := ops.all fun o => match o.op with | .defer _ => false | _ => true
def onlyN (Q : Exit → Act → World → Prop) (e : Exit) (a : Act) (w : World) : Prop := e = .normal ∧ Q .normal a w
theorem rows_round {n l : Nat} {P : Program} {row : String} {args : Array Value} {w : World} {R : Value → World → Prop} (h : Rows P row args w R) : RowsIn (Fence.wide.inRound l) n P row args w R :=
  fun c cs _ => let ⟨v, w', r, s⟩ := h c cs; ⟨v, w', r, stepsIn_wide.2 s⟩
theorem upon_round {n l : Nat} {P : Program} {o : Oper} {a : Act} {K K' : Act → World → Prop} {Q : Exit → Act → World → Prop} (hK : ∀ a w, K a w → K' a w) {r : Result Next} (h : o.upon P a K (onlyN Q) r) : o.uponIn (Fence.wide.inRound l) n P a K' Q r := by
  cases r with
  | ok x w =>
    cases x with
    | value v => exact hK _ _ h
    | skip => exact hK _ _ h
    | defer d => exact hK _ _ h
    | enter f args =>
      refine ⟨(fun e => nomatch e), CallsIn.inRound l (callsIn_wide.2 (Calls.mono h ?_))⟩
      intro e w' he
      cases e with
      | returned v => exact hK _ _ he
      | panicked c => exact absurd he.1 (by intro e; cases e)
      | outgrown =>
        obtain ⟨_, _, e, _⟩ := he
        cases e
    | row row args => exact ⟨(fun e => nomatch e), rows_round (Rows.mono h (fun _ _ g => hK _ _ g))⟩
    | _ => exact False.elim h
  | halt x w =>
    cases x with
    | panic v => exact absurd h.1 (by intro e; cases e)
    | _ => exact False.elim h
theorem op_round {n l : Nat} {P : Program} {ops : Array Oper} {Q : Exit → Act → World → Prop} {i : Nat} {K K' : Act → World → Prop} (hd : noDefer ops = true) (hK : ∀ a w, K a w → K' a w) {a : Act} {w : World} (h : wpOp P ops (onlyN Q) i K a w) : wpOpIn (Fence.wide.inRound l) n P ops Q i K' a w := by
  unfold wpOp at h
  unfold wpOpIn
  cases ho : ops[i]? with
  | none => rw [ho] at h; exact hK _ _ h
  | some o =>
    rw [ho] at h
    dsimp only at h ⊢
    by_cases hw : Region.wanted o (yielded ops a.tmps) = true
    · rw [if_pos hw] at h ⊢
      have hn : ∀ c, o.op ≠ .defer c := by
        intro c e
        have hm := Array.mem_of_getElem? ho
        have h1 := (Array.all_eq_true_iff_forall_mem.1 hd) o hm
        rw [e] at h1
        cases h1
      rcases h with h | ⟨_, _, _, e, _⟩
      · refine ⟨fun _ _ => trivial, ?_⟩
        rw [Oper.semAt_plain _ _ _ hn]
        exact upon_round hK h
      · cases e
    · rw [if_neg hw] at h ⊢
      exact ⟨fun _ _ => trivial, hK _ _ h⟩
theorem any_round {n l : Nat} {P : Program} {ops : Array Oper} {Q : Exit → Act → World → Prop} {md : Region.Mode} (hd : noDefer ops = true) : ∀ (fuel : Nat) (listed : Array Bool) (a : Act) (w : World), wpAny P md ops (onlyN Q) fuel listed a w → wpAnyIn (Fence.wide.inRound l) n P md ops Q fuel listed a w
  | 0, listed, a, w, h => ⟨h.1, h.2.2⟩
  | fuel + 1, listed, a, w, h => ⟨fun e => (h.1 e).2, fun i hi => op_round hd (any_round hd fuel _) (h.2 i hi)⟩
theorem region_round {id n l : Nat} {P : Program} {ops : Array Oper} {Q : Exit → Act → World → Prop} {S : World → Prop} {a : Act} {w : World} (hm : P.follows .mixedOrders = true) (hd : noDefer ops = true) (hS : S w.drew)
    (h : S w.drew → wpAnyH P .any ops (onlyN Q) S ops.size (Array.replicate ops.size false) a w.drew) : (Code.region id ops true).wpIn (Fence.wide.inRound l) n P Q a w :=
  wpIn_region_any hm (any_round hd _ _ _ _ (wpAny_of_held _ _ _ _ (h hS)))

end Go.Proofs.YtmmpalnalogfnaaGreatDoor

/- Walk of readLegs. -/
namespace Go.Proofs.YtmmpalnalogfnaaGreatDoor.Per
open Go.RowKit Go.Shelf
set_option linter.unusedSimpArgs false
set_option linter.unusedVariables false
attribute [local go_sem] Oper.semAt_some
attribute [local simp] wide_fn

abbrev lgsT : TypeId := 24
abbrev erT : TypeId := 33
theorem boxed_more {W W' : World} {B : Nat} {t : TypeId} {v : Value} (h : Boxed W B t v) (hb : Below W.heap.size W W') : Boxed W' B t v := (hb.block B h.lt).trans h
theorem boxed_not {W : World} {B : Nat} {t : TypeId} {u : Value} (h : Boxed W B t u) {e : TypeId} (hte : t ≠ e) {base size k : Nat} {v : Value} {xs : List Value} (hr : W.ownsRow base e size v k xs) : some B ≠ v.ownBlock := by
  rcases hr.2 with ⟨rfl, _⟩ | ⟨g, cap, cur, rfl, _, hgb, _⟩
  · simp [Value.ownBlock]
  · intro e'
    obtain rfl : B = g := by simpa [Value.ownBlock] using e'
    have := (show W.heap[B]? = _ from h).symm.trans hgb
    simp at this
    exact hte this.2
theorem own_slice {W : World} {B : Nat} {e : TypeId} {sz : Nat} {v : Value} {k : Nat} {xs : List Value} (h : W.ownsRow B e sz v k xs) : ∃ A n c, v = .slice A n c := by
  rcases h.2 with ⟨rfl, _⟩ | ⟨g, cap, cur, rfl, _⟩
  · exact ⟨_, _, _, rfl⟩
  · exact ⟨_, _, _, rfl⟩
/-- a row that lies in memory of one's own, from B on -/
def OffB (B : Nat) (v : Value) : Prop := ∀ b o n c, v = .slice (some ⟨b, o, none⟩) n c → B ≤ b
theorem own_off {W : World} {B : Nat} {e : TypeId} {sz : Nat} {v : Value} {k : Nat} {xs : List Value} (h : W.ownsRow B e sz v k xs) : OffB B v := by
  intro b o n c hv
  rcases h.2 with ⟨rfl, _⟩ | ⟨g, cap, cur, rfl, h2, _⟩
  · cases hv
  · cases hv; exact h2
theorem info_leg5 : (Tryz.prog.info? legT).map (fun i => (i.zero, i.size, i.bytes)) = some (some (.agg #[.string noB, .string noB, .int .i64 0, .int .i64 0, .string noB]), 5, 64) := by kernel_rfl
theorem rtLq : RT Tryz.prog lgsT legT 5 encLg where
  ht := Tryz.underlying24
  info := ⟨.agg #[.string noB, .string noB, .int .i64 0, .int .i64 0, .string noB], 64, by kernel_rfl, rfl, by omega⟩
  len x := rfl
  one x u hu := by simp [encLg] at hu; rcases hu with rfl | rfl | rfl | rfl | rfl <;> rfl
  pos := by omega
theorem keeps_but {α : Type} {enc : α → List Value} {e : TypeId} {sz B B0 : Nat} {w w' : World} {v : Value} {l : List α} (h : ROwn e sz enc B w v l) (hb : But w w' (fun k => v.ownBlock = some k)) : KeepsFrom B0 w w' := by
  refine ⟨hb.size, fun k o _ hk hc => ?_⟩
  have hlt := (Array.getElem?_eq_some_iff.1 hk).1
  by_cases e : v.ownBlock = some k
  · exfalso
    rcases h.own.2 with ⟨rfl, _⟩ | ⟨g, cap, cur, rfl, _, hgb, _⟩
    · cases e
    · obtain rfl : g = k := by simpa [Value.ownBlock] using e
      rw [hgb] at hk
      cases hk
      cases hc
  · exact (hb.block k hlt e).trans hk
def lgsC (ss : List ByteArray) {m : Nat} (pre : List (Ck m)) : List Lg := pre.map (fun x => lgAt ss x.1)
theorem lgsC_snoc (ss : List ByteArray) {m : Nat} (pre : List (Ck m)) (x : Ck m) : lgsC ss (pre ++ [x]) = lgsC ss pre ++ [lgAt ss x.1] := by simp [lgsC]
theorem lgsC_range (ss : List ByteArray) {m : Nat} {pre : List (Ck m)} {k : Nat} (h : cks pre = List.range k) : lgsC ss pre = lgsR ss k := by
  unfold lgsC lgsR
  rw [← h]
  simp [cks]
def gdC (ss : List ByteArray) {m : Nat} (pre : List (Ck m)) : Prop := ∀ x ∈ pre, lgEr ss x.1 = 0
theorem gdC_all {ss : List ByteArray} {m : Nat} {pre : List (Ck m)} (h : cks pre = List.range m) (hg : gdC ss pre) : erL ss m 0 = 0 := by
  refine erL_of ss m 0 (fun j _ hj => ?_)
  have h1 : j ∈ cks pre := by rw [h]; exact List.mem_range.2 (by omega)
  obtain ⟨x, hx, rfl⟩ := List.mem_map.1 h1
  exact hg x hx
theorem erL_first (ss : List ByteArray) : ∀ n k j, k ≤ j → j < k + n → (∀ i, k ≤ i → i < j → lgEr ss i = 0) → lgEr ss j ≠ 0 → erL ss n k = lgEr ss j
  | 0, k, j, h1, h2, _, _ => by omega
  | n + 1, k, j, h1, h2, h3, h4 => by
    unfold erL
    by_cases e : j = k
    · subst e; rw [if_neg h4]
    · rw [if_pos (h3 k (Nat.le_refl _) (by omega))]
      exact erL_first ss n (k + 1) j (by omega) (by omega) (fun i g1 g2 => h3 i (by omega) g2) h4
theorem gdC_stop {ss : List ByteArray} {m : Nat} {q : List (Ck m)} {x : Ck m} {k : Nat} (h : cks (q ++ [x]) = List.range k) (hg : gdC ss q) (hx : lgEr ss x.1 ≠ 0) : erL ss m 0 = lgEr ss x.1 := by
  rw [cks_snoc] at h
  have hl : (cks q).length + 1 = k := by have := congrArg List.length h; simpa using this
  have hk : k = (cks q).length + 1 := hl.symm
  rw [hk, List.range_succ] at h
  obtain ⟨e1, e2⟩ := List.append_inj h (by simp)
  have e3 : x.1 = (cks q).length := by simpa using e2
  refine erL_first ss m 0 x.1 (Nat.zero_le _) (by have := x.2; omega) (fun i _ hi => ?_) hx
  have h1 : i ∈ cks q := by rw [e1]; exact List.mem_range.2 (by omega)
  obtain ⟨y, hy, rfl⟩ := List.mem_map.1 h1
  exact hg y hy

set_option maxRecDepth 100000 in
set_option maxHeartbeats 4000000 in
theorem readLegs_in (b o c m : Nat) (ss : List ByteArray) (w : World) (hm : m ≤ 1000) (hc : 5 * m ≤ c) (hbw : b < w.heap.size) (hrow : ∀ j, j < 5 * m → w.cell? ⟨b, o + j, none⟩ = some (.string (wd ss (3 + j)))) (hsz : ∀ k, (wd ss k).size ≤ 40000) (hE : Txt.Env w) :
    CallsIn Fence.wide 10 Tryz.prog 48 #[.slice (some ⟨b, o, none⟩) (5 * m) c] w fun e W' => ∃ v, e = .returned (.tuple #[v, .int .i64 (erL ss m 0)]) ∧ (erL ss m 0 = 0 → RowL 5 encLg W' v (lgsR ss m) ∧ OffB w.heap.size v) ∧ (erL ss m 0 ≠ 0 → v = .slice none 0 0) ∧ Below w.heap.size w W' := by
  obtain ⟨i0, hi, hz0, hz1, hz2⟩ := info_parts info_leg5
  refine callsIn_of_wp_marks Tryz.func48 rfl trivial ?_ rfl
  simp only [Tryz.ntmps48, List.size_toArray, List.length_cons, List.length_nil, Nat.reduceAdd, Nat.reduceSub, Array.replicate_succ, Array.replicate_zero, List.push_toArray, List.append_toArray, List.nil_append, List.cons_append]
  gi_wp2_with (gi_at_call 118; refine (chunk_any _ _ _ _).mono ?_; rintro e w' ⟨rfl, rfl⟩)
  obtain ⟨W0, hW0⟩ : ∃ W0, W0 = ((((w.alloc (.cells #[.slice none 0 0] lgsT)).alloc (.cells #[.int .i64 0] erT)).alloc (.cells #[.slice none 0 0] lgsT)).alloc (.cells #[.slice (some ⟨b, o, none⟩) (5 * m) c] strsT)).alloc (.cells #[.int .i64 5] 3) := ⟨_, rfl⟩
  have hs0 : W0.heap.size = w.heap.size + 5 := by rw [hW0]; simp
  have b0 : Boxed W0 w.heap.size lgsT (.slice none 0 0) := by
    rw [hW0]
    exact ((((Boxed.new w lgsT (.slice none 0 0)).alloc _).alloc _).alloc _).alloc _
  have b1 : Boxed W0 (w.heap.size + 1) erT (.int .i64 0) := by
    rw [hW0]
    have h := Boxed.new (w.alloc (.cells #[.slice none 0 0] lgsT)) erT (.int .i64 0)
    rw [World.size_alloc] at h
    exact ((h.alloc _).alloc _).alloc _
  have b2 : Boxed W0 (w.heap.size + 1 + 1) lgsT (.slice none 0 0) := by
    rw [hW0]
    have h := Boxed.new ((w.alloc (.cells #[.slice none 0 0] lgsT)).alloc (.cells #[.int .i64 0] erT)) lgsT (.slice none 0 0)
    simp only [World.size_alloc] at h
    exact (h.alloc _).alloc _
  have b3 : ChB W0 (w.heap.size + 1 + 1 + 1) (.slice (some ⟨b, o, none⟩) (5 * m) c) := by
    rw [hW0]
    have h := Boxed.new (((w.alloc (.cells #[.slice none 0 0] lgsT)).alloc (.cells #[.int .i64 0] erT)).alloc (.cells #[.slice none 0 0] lgsT)) strsT (.slice (some ⟨b, o, none⟩) (5 * m) c)
    have h' := Boxed.new ((((w.alloc (.cells #[.slice none 0 0] lgsT)).alloc (.cells #[.int .i64 0] erT)).alloc (.cells #[.slice none 0 0] lgsT)).alloc (.cells #[.slice (some ⟨b, o, none⟩) (5 * m) c] strsT)) 3 (.int .i64 5)
    simp only [World.size_alloc] at h h'
    exact ⟨h.alloc _, h'⟩
  have hB0 : Below w.heap.size w W0 := by
    rw [hW0]
    exact (((((Below.refl _ w).alloc (Nat.le_refl _) _).alloc (by simp) _).alloc (by simp; omega) _).alloc (by simp; omega) _).alloc (by simp; omega) _
  rw [show ((((w.alloc (.cells #[.slice none 0 0] lgsT)).alloc (.cells #[.int .i64 0] erT)).alloc (.cells #[.slice none 0 0] lgsT)).alloc (.cells #[.slice (some ⟨b, o, none⟩) (5 * m) c] strsT)).alloc (.cells #[.int .i64 5] 3) = W0 from hW0.symm]
  clear hW0
  refine wpIn_rangeFunc_ownG rfl (by omega) (gf := 171) (lb := #[.pointer (some ⟨w.heap.size + 1 + 1 + 1, 0, none⟩), .pointer (some ⟨w.heap.size + 1 + 1 + 1 + 1, 0, none⟩)]) rfl trivial (enters_of Tryz.func171 (by kernel_rfl) rfl)
    (chunk_stops (w.heap.size + 1 + 1 + 1) w.heap.size b o c m (by omega) hc W0 b3) kpc_t (kpc_b (by omega) (by omega)) (Below.refl _ _) (fun _ => rfl)
    (fun pre W => ((∃ v, Boxed W (w.heap.size + 1 + 1) lgsT v ∧ W.ownsRow w.heap.size legT 5 v (lgsC ss pre).length (cellsR encLg (lgsC ss pre)) ∧ gdC ss pre) ∧ ((Boxed W w.heap.size lgsT (.slice none 0 0) ∧ Boxed W (w.heap.size + 1) erT (.int .i64 0)) ∧ (Boxed W (w.heap.size + 1 + 1 + 1) strsT (.slice (some ⟨b, o, none⟩) (5 * m) c) ∧ Boxed W (w.heap.size + 1 + 1 + 1 + 1) 3 (.int .i64 5)))) ∧ Below w.heap.size w W)
    (fun c pre W => (c = .ret ∧ ∃ q x, pre = q ++ [x] ∧ gdC ss q ∧ lgEr ss x.1 ≠ 0 ∧ Boxed W w.heap.size lgsT (.slice none 0 0) ∧ Boxed W (w.heap.size + 1) erT (.int .i64 (lgEr ss x.1))) ∧ Below w.heap.size w W)
    (OwnFrom.and (OwnFrom.and (Own.from (holdsRow_own w.heap.size (w.heap.size + 1 + 1) lgsT legT 5 (fun pre : List (Ck m) => (lgsC ss pre).length) (fun pre => cellsR encLg (lgsC ss pre)) (fun pre _ => gdC ss pre)) _) (OwnFrom.and (OwnFrom.and (Own.from (boxed_own _ _ _) _) (Own.from (boxed_own _ _ _) _)) (OwnFrom.and (Own.from (boxed_own _ _ _) _) (Own.from (boxed_own _ _ _) _)))) (ownFrom_below (Nat.le_refl _) (by omega)))
    (fun cc => OwnFrom.and (Own.from (fun s A B row hs hg hr => ⟨hs.1, by
      obtain ⟨q, x, e1, e2, e3, e4, e5⟩ := hs.2
      exact ⟨q, x, e1, e2, e3, boxed_own (β := Unit) _ _ (fun _ => _) () A B row e4 hg hr, boxed_own (β := Unit) _ _ (fun _ => _) () A B row e5 hg hr⟩⟩) _) (ownFrom_below (Nat.le_refl _) (by omega)))
    ⟨⟨⟨_, b2, World.ownsRow_nil _ _ _ _, fun x hx => by cases hx⟩, ⟨b0, b1⟩, b3⟩, hB0⟩
    (fun x => { tmps := #[.slice (some ⟨b, o, none⟩) (5 * m) c, undef, .pointer (some ⟨w.heap.size, 0, none⟩), .pointer (some ⟨w.heap.size + 1, 0, none⟩), .pointer (some ⟨w.heap.size + 1 + 1, 0, none⟩), .slice (some ⟨b, o + 5 * x.1, none⟩) 5 5, undef, undef, undef, .slice (some ⟨b, o, none⟩) (5 * m) c, .func (.func 171) #[] #[.pointer (some ⟨w.heap.size + 1 + 1 + 1, 0, none⟩), .pointer (some ⟨w.heap.size + 1 + 1 + 1 + 1, 0, none⟩)], .slice (some ⟨b, o + 5 * x.1, none⟩) 5 5, undef, undef, undef, undef, undef, undef, undef, undef, undef, undef, undef, undef, undef, undef, undef, undef, undef, undef, undef, undef, undef, undef, undef, undef, undef, undef, undef, undef, undef, undef, undef, undef, undef, undef, undef, undef], defers := [] }) ?assign ?body ?done ?stop
  case assign =>
    intro l x W K hK
    dsimp only [encC]
    rw [zip_one]
    gi_wp2
    exact hK
  case body =>
    rintro l pre ⟨k, hk⟩ W ⟨⟨⟨v, hv, hown, hgd⟩, ⟨b0', b1'⟩, b3', b4'⟩, hB⟩ hlt
    clear hs0
    have hle : (lgsC ss pre).length = pre.length := by simp [lgsC]
    have hcw : ∀ j, j < 5 → W.cell? ⟨b, o + 5 * k + j, none⟩ = some (.string (wd ss (3 + 5 * k + j))) := fun j hj => by
      have h1 := (hB.cell (p := ⟨b, o + (5 * k + j), none⟩) hbw).trans (hrow (5 * k + j) (by omega))
      rw [show o + (5 * k + j) = o + 5 * k + j by omega, show 3 + (5 * k + j) = 3 + 5 * k + j by omega] at h1
      exact h1
    have w0 := hcw 0 (by omega)
    have w1 := hcw 1 (by omega)
    have w2 := hcw 2 (by omega)
    have w3 := hcw 3 (by omega)
    have w4 := hcw 4 (by omega)
    rw [Nat.add_zero, Nat.add_zero] at w0
    rw [show 3 + 5 * k + 1 = 4 + 5 * k by omega] at w1
    rw [show 3 + 5 * k + 2 = 5 + 5 * k by omega] at w2
    rw [show 3 + 5 * k + 3 = 6 + 5 * k by omega] at w3
    rw [show 3 + 5 * k + 4 = 7 + 5 * k by omega] at w4
    have HAT : Hid (lgAt ss k = ⟨wd ss (3 + 5 * k), wd ss (4 + 5 * k), nuV (wd ss (5 + 5 * k)), nuV (wd ss (6 + 5 * k)), wd ss (7 + 5 * k)⟩) := Lib.hid rfl
    have HER : Hid (lgEr ss k = if nuE (wd ss (5 + 5 * k)) = 0 then nuE (wd ss (6 + 5 * k)) else nuE (wd ss (5 + 5 * k))) := Lib.hid rfl
    have KD : Hid (Calls Tryz.prog 46 #[.string (wd ss (5 + 5 * k))] W fun e w' => e = .returned (.tuple #[.int .i64 (nuV (wd ss (5 + 5 * k))), .int .i64 (nuE (wd ss (5 + 5 * k)))]) ∧ Below W.heap.size W w') := Lib.hid (Txt.number_any _ W (hsz _) (hE.more hB))
    have KE : Hid (∀ W', Below W.heap.size W W' → Calls Tryz.prog 46 #[.string (wd ss (6 + 5 * k))] W' fun e w' => e = .returned (.tuple #[.int .i64 (nuV (wd ss (6 + 5 * k))), .int .i64 (nuE (wd ss (6 + 5 * k)))]) ∧ Below W'.heap.size W' w') := Lib.hid (fun W' h => Txt.number_any _ W' (hsz _) ((hE.more hB).more h))
    generalize wd ss (3 + 5 * k) = sA at *
    generalize wd ss (4 + 5 * k) = sB at *
    generalize wd ss (5 + 5 * k) = sD at *
    generalize wd ss (6 + 5 * k) = sE at *
    generalize wd ss (7 + 5 * k) = sQ at *
    clear hcw
    cases q1 : (nuE sD != 0) with
    | true =>
      have hr : lgEr ss k = nuE sD := by rw [HER.out, if_neg (by simpa using q1)]
      have hr0 : lgEr ss k ≠ 0 := by rw [hr]; simpa using q1
      generalize nuE sD = nd at *
      gi_wp2_with (gi_at_call 46; refine (CallsIn.inRound l (callsIn_wide.2 KD.out)).mono ?_; rintro e w1 ⟨rfl, hb1⟩; have c0 := (boxed_more b0' hb1).cell; have c1 := (boxed_more b1' hb1).cell; have fz0 := (boxed_more b0' hb1).frozen; have fz1 := (boxed_more b1' hb1).frozen)
      exact ⟨(keeps_below hb1).trans (((KeepsOthers.setCell _ _ _).trans (KeepsOthers.setCell _ _ _)).from _), ⟨rfl, pre, ⟨k, hk⟩, rfl, hgd, hr0, ((boxed_more b0' hb1).set _).other (by omega) _, by rw [hr]; exact ((boxed_more b1' hb1).other (by omega) _).set _⟩, ((hB.trans (hb1.mono hB.size)).setCell (p := ⟨w.heap.size, 0, none⟩) (Nat.le_refl _) _).setCell (p := ⟨w.heap.size + 1, 0, none⟩) (by simp) _⟩
    | false =>
    have z1 : nuE sD = 0 := by simpa using q1
    cases q2 : (nuE sE != 0) with
    | true =>
      have hr : lgEr ss k = nuE sE := by rw [HER.out, if_pos z1]
      have hr0 : lgEr ss k ≠ 0 := by rw [hr]; simpa using q2
      rw [z1] at KD
      clear q1 z1
      generalize nuE sE = nd at *
      gi_wp2_with (first
        | (gi_at_call 46; with_reducible refine (CallsIn.inRound l (callsIn_wide.2 KD.out)).mono ?_; rintro e w1 ⟨rfl, hb1⟩; have w3 := (hb1.cell (World.block_lt_of_cell? _ _ w3)).trans w3)
        | (gi_at_call 46; with_reducible refine (CallsIn.inRound l (callsIn_wide.2 (KE.out _ hb1))).mono ?_; rintro e w2 ⟨rfl, hb2⟩; have hb3 := hb1.trans (hb2.mono hb1.size); have c0 := (boxed_more b0' hb3).cell; have c1 := (boxed_more b1' hb3).cell; have fz0 := (boxed_more b0' hb3).frozen; have fz1 := (boxed_more b1' hb3).frozen))
      exact ⟨(keeps_below hb3).trans (((KeepsOthers.setCell _ _ _).trans (KeepsOthers.setCell _ _ _)).from _), ⟨rfl, pre, ⟨k, hk⟩, rfl, hgd, hr0, ((boxed_more b0' hb3).set _).other (by omega) _, by rw [hr]; exact ((boxed_more b1' hb3).other (by omega) _).set _⟩, ((hB.trans (hb3.mono hB.size)).setCell (p := ⟨w.heap.size, 0, none⟩) (Nat.le_refl _) _).setCell (p := ⟨w.heap.size + 1, 0, none⟩) (by simp) _⟩
    | false =>
    have z2 : nuE sE = 0 := by simpa using q2
    have hr : lgEr ss k = 0 := by rw [HER.out, if_pos z1, z2]
    rw [z1] at KD
    rw [z2] at KE
    clear q1 q2 z1 z2 HER
    obtain ⟨A1, n1, k1, rfl⟩ := own_slice hown
    gi_wp2_with (first
      | (gi_at_call 46; with_reducible refine (CallsIn.inRound l (callsIn_wide.2 KD.out)).mono ?_; rintro e x1 ⟨rfl, hb1⟩; have w3 := (hb1.cell (World.block_lt_of_cell? _ _ w3)).trans w3)
      | (gi_at_call 46; with_reducible refine (CallsIn.inRound l (callsIn_wide.2 (KE.out _ hb1))).mono ?_; rintro e x2 ⟨rfl, hb2⟩; have hb3 := hb1.trans (hb2.mono hb1.size); have hv3 := boxed_more hv hb3; have hc3 := hv3.cell; have hO3 := own_more hown hb3; have u0 := (hb3.cell (World.block_lt_of_cell? _ _ w0)).trans w0; have u1 := (hb3.cell (World.block_lt_of_cell? _ _ w1)).trans w1; have u4 := (hb3.cell (World.block_lt_of_cell? _ _ w4)).trans w4; have hsz3 := Nat.le_trans hB.size hb3.size))
    have hv3d : Boxed x2.drew (w.heap.size + 1 + 1) lgsT (.slice A1 n1 k1) := boxed_more hv3 (Below.refl _ _).drew
    have hO4 : ROwn legT 5 encLg w.heap.size x2.drew (.slice A1 n1 k1) (lgsC ss pre) := ⟨own_more hO3 (Below.refl _ _).drew, hsz3⟩
    have U0 : ∀ W', Below w.heap.size x2 W' → W'.cell? ⟨b, o + 5 * k, none⟩ = some (.string sA) := fun W' h => (h.cell (p := ⟨b, o + 5 * k, none⟩) hbw).trans u0
    have U1 : ∀ W', Below w.heap.size x2 W' → W'.cell? ⟨b, o + 5 * k + 1, none⟩ = some (.string sB) := fun W' h => (h.cell (p := ⟨b, o + 5 * k + 1, none⟩) hbw).trans u1
    have U4 : ∀ W', Below w.heap.size x2 W' → W'.cell? ⟨b, o + 5 * k + 4, none⟩ = some (.string sQ) := fun W' h => (h.cell (p := ⟨b, o + 5 * k + 4, none⟩) hbw).trans u4
    have HFIN : Hid (∀ v8 w8, ROwn legT 5 encLg w.heap.size w8 v8 (lgsC ss pre ++ [⟨sA, sB, nuV sD, nuV sE, sQ⟩]) → Chg x2.drew w8 (.slice A1 n1 k1) v8 → Boxed w8 (w.heap.size + 1 + 1) lgsT (.slice A1 n1 k1) →
        KeepsFrom W0.heap.size W (w8.setCell ⟨w.heap.size + 1 + 1, 0, none⟩ v8) ∧ KpC w.heap.size (w.heap.size + 1 + 1 + 1) W (w8.setCell ⟨w.heap.size + 1 + 1, 0, none⟩ v8) ∧
        ((∃ v, Boxed (w8.setCell ⟨w.heap.size + 1 + 1, 0, none⟩ v8) (w.heap.size + 1 + 1) lgsT v ∧ (w8.setCell ⟨w.heap.size + 1 + 1, 0, none⟩ v8).ownsRow w.heap.size legT 5 v (lgsC ss (pre ++ [⟨k, hk⟩])).length (cellsR encLg (lgsC ss (pre ++ [⟨k, hk⟩]))) ∧ gdC ss (pre ++ [⟨k, hk⟩])) ∧ ((Boxed (w8.setCell ⟨w.heap.size + 1 + 1, 0, none⟩ v8) w.heap.size lgsT (.slice none 0 0) ∧ Boxed (w8.setCell ⟨w.heap.size + 1 + 1, 0, none⟩ v8) (w.heap.size + 1) erT (.int .i64 0)) ∧ (Boxed (w8.setCell ⟨w.heap.size + 1 + 1, 0, none⟩ v8) (w.heap.size + 1 + 1 + 1) strsT (.slice (some ⟨b, o, none⟩) (5 * m) c) ∧ Boxed (w8.setCell ⟨w.heap.size + 1 + 1, 0, none⟩ v8) (w.heap.size + 1 + 1 + 1 + 1) 3 (.int .i64 5)))) ∧ Below w.heap.size w (w8.setCell ⟨w.heap.size + 1 + 1, 0, none⟩ v8)) := Lib.hid (fun v8 w8 hO8 hC8 hv8 => by
      have hbx : Below w.heap.size x2.drew w8 := hC8.below hO4
      have hbd : Below w.heap.size W x2.drew := (hb3.mono hB.size).trans ((Below.refl w.heap.size x2).drew)
      have hbs : Below w.heap.size W (w8.setCell ⟨w.heap.size + 1 + 1, 0, none⟩ v8) := (hbd.trans hbx).setCell (p := ⟨w.heap.size + 1 + 1, 0, none⟩) (by simp; omega) _
      have e0 := boxed_more b0' (hb3.trans (Below.refl _ x2).drew)
      have e1 := boxed_more b1' (hb3.trans (Below.refl _ x2).drew)
      have e3 := boxed_more b3' (hb3.trans (Below.refl _ x2).drew)
      have e4 := boxed_more b4' (hb3.trans (Below.refl _ x2).drew)
      have f0 : Boxed w8 _ _ _ := (hC8.but.block _ e0.lt (boxed_not e0 (by decide) hO4.own).symm).trans e0
      have f1 : Boxed w8 _ _ _ := (hC8.but.block _ e1.lt (boxed_not e1 (by decide) hO4.own).symm).trans e1
      have f3 : Boxed w8 _ _ _ := (hC8.but.block _ e3.lt (boxed_not e3 (by decide) hO4.own).symm).trans e3
      have f4 : Boxed w8 _ _ _ := (hC8.but.block _ e4.lt (boxed_not e4 (by decide) hO4.own).symm).trans e4
      have g0 := f0.other (show w.heap.size ≠ w.heap.size + 1 + 1 by omega) v8
      have g1 := f1.other (show w.heap.size + 1 ≠ w.heap.size + 1 + 1 by omega) v8
      have g3 := f3.other (show w.heap.size + 1 + 1 + 1 ≠ w.heap.size + 1 + 1 by omega) v8
      have g4 := f4.other (show w.heap.size + 1 + 1 + 1 + 1 ≠ w.heap.size + 1 + 1 by omega) v8
      have hkf : KeepsFrom W0.heap.size x2.drew w8 := keeps_but hO4 hC8.but
      refine ⟨((keeps_below (hb3.trans (Below.refl _ x2).drew)).trans hkf).trans ((KeepsOthers.setCell _ _ _).from _), ⟨hbs, g3.trans (show W.heap[w.heap.size + 1 + 1 + 1]? = _ from b3').symm, g4.trans (show W.heap[w.heap.size + 1 + 1 + 1 + 1]? = _ from b4').symm⟩, ⟨⟨v8, hv8.set v8, ?_, ?_⟩, ⟨g0, g1⟩, g3, g4⟩, hB.trans hbs⟩
      · rw [lgsC_snoc, HAT.out]
        exact hO8.own.kept (grownBy_setCell' w8 (w.heap.size + 1 + 1) v8) (.inr (boxed_not hv8 (by decide) hO8.own).symm)
      · intro y hy
        rcases List.mem_append.1 hy with hy | hy
        · exact hgd y hy
        · rw [List.mem_singleton.1 hy]; exact hr)
    have HV3 := Lib.hid hv3
    clear hv hown b0' b1' b3' b4' hgd HAT hr w0 w1 w2 w3 w4 hv3 hc3 hO3
    have hS : (fun W => Below w.heap.size x2 W) _ := (Below.refl _ _).drew
    refine region_round (S := fun W => Below w.heap.size x2 W) (by kernel_rfl) (by kernel_rfl) hS (fun _ => ?_)
    refine wpAnyH_take (i := 1) (v := ?vR1) rfl (by kernel_rfl) (by kernel_rfl) (by kernel_rfl) (fun _ _ _ h => h) (Or.inl ⟨by rfl, ?hyR1⟩) hS ?restR1
    case hyR1 =>
      intro w hSw
      first | (go_simp; done) | (go_simp; with_reducible rfl)
    try simp only [Act.put, List.setIfInBounds_toArray, List.set_cons_zero, List.set_cons_succ]
    refine wpAnyH_take (i := 2) (v := ?vR2) rfl (by kernel_rfl) (by kernel_rfl) (by kernel_rfl) (fun _ _ _ h => h) (Or.inl ⟨by rfl, ?hyR2⟩) hS ?restR2
    case hyR2 =>
      intro w hSw
      first | (go_simp; done) | (go_simp; with_reducible rfl)
    try simp only [Act.put, List.setIfInBounds_toArray, List.set_cons_zero, List.set_cons_succ]
    refine wpAnyH_take (i := 3) (v := ?vR3) rfl (by kernel_rfl) (by kernel_rfl) (by kernel_rfl) (fun _ _ _ h => h) (Or.inl ⟨by rfl, ?hyR3⟩) hS ?restR3
    case hyR3 =>
      intro w hSw
      have k0 := U0 w hSw
      first | (go_simp; done) | (go_simp; with_reducible rfl)
    try simp only [Act.put, List.setIfInBounds_toArray, List.set_cons_zero, List.set_cons_succ]
    refine wpAnyH_take (i := 4) (v := ?vR4) rfl (by kernel_rfl) (by kernel_rfl) (by kernel_rfl) (fun _ _ _ h => h) (Or.inl ⟨by rfl, ?hyR4⟩) hS ?restR4
    case hyR4 =>
      intro w hSw
      first | (go_simp; done) | (go_simp; with_reducible rfl)
    try simp only [Act.put, List.setIfInBounds_toArray, List.set_cons_zero, List.set_cons_succ]
    refine wpAnyH_take (i := 5) (v := ?vR5) rfl (by kernel_rfl) (by kernel_rfl) (by kernel_rfl) (fun _ _ _ h => h) (Or.inl ⟨by rfl, ?hyR5⟩) hS ?restR5
    case hyR5 =>
      intro w hSw
      first | (go_simp; done) | (go_simp; with_reducible rfl)
    try simp only [Act.put, List.setIfInBounds_toArray, List.set_cons_zero, List.set_cons_succ]
    refine wpAnyH_take (i := 6) (v := ?vR6) rfl (by kernel_rfl) (by kernel_rfl) (by kernel_rfl) (fun _ _ _ h => h) (Or.inl ⟨by rfl, ?hyR6⟩) hS ?restR6
    case hyR6 =>
      intro w hSw
      have k0 := U1 w hSw
      first | (go_simp; done) | (go_simp; with_reducible rfl)
    try simp only [Act.put, List.setIfInBounds_toArray, List.set_cons_zero, List.set_cons_succ]
    refine wpAnyH_take (i := 7) (v := ?vR7) rfl (by kernel_rfl) (by kernel_rfl) (by kernel_rfl) (fun _ _ _ h => h) (Or.inl ⟨by rfl, ?hyR7⟩) hS ?restR7
    case hyR7 =>
      intro w hSw
      first | (go_simp; done) | (go_simp; with_reducible rfl)
    try simp only [Act.put, List.setIfInBounds_toArray, List.set_cons_zero, List.set_cons_succ]
    refine wpAnyH_take (i := 8) (v := ?vR8) rfl (by kernel_rfl) (by kernel_rfl) (by kernel_rfl) (fun _ _ _ h => h) (Or.inl ⟨by rfl, ?hyR8⟩) hS ?restR8
    case hyR8 =>
      intro w hSw
      first | (go_simp; done) | (go_simp; with_reducible rfl)
    try simp only [Act.put, List.setIfInBounds_toArray, List.set_cons_zero, List.set_cons_succ]
    refine wpAnyH_take (i := 9) (v := ?vR9) rfl (by kernel_rfl) (by kernel_rfl) (by kernel_rfl) (fun _ _ _ h => h) (Or.inl ⟨by rfl, ?hyR9⟩) hS ?restR9
    case hyR9 =>
      intro w hSw
      first | (go_simp; done) | (go_simp; with_reducible rfl)
    try simp only [Act.put, List.setIfInBounds_toArray, List.set_cons_zero, List.set_cons_succ]
    refine wpAnyH_take (i := 10) (v := ?vR10) rfl (by kernel_rfl) (by kernel_rfl) (by kernel_rfl) (fun _ _ _ h => h) (Or.inl ⟨by rfl, ?hyR10⟩) hS ?restR10
    case hyR10 =>
      intro w hSw
      first | (go_simp; done) | (go_simp; with_reducible rfl)
    try simp only [Act.put, List.setIfInBounds_toArray, List.set_cons_zero, List.set_cons_succ]
    refine wpAnyH_take (i := 11) (v := ?vR11) rfl (by kernel_rfl) (by kernel_rfl) (by kernel_rfl) (fun _ _ _ h => h) (Or.inl ⟨by rfl, ?hyR11⟩) hS ?restR11
    case hyR11 =>
      intro w hSw
      have k0 := U4 w hSw
      first | (go_simp; done) | (go_simp; with_reducible rfl)
    try simp only [Act.put, List.setIfInBounds_toArray, List.set_cons_zero, List.set_cons_succ]
    refine wpAnyH_take (i := 12) (v := ?vR12) rfl (by kernel_rfl) (by kernel_rfl) (by kernel_rfl) (fun _ _ _ h => h) (Or.inl ⟨by rfl, ?hyR12⟩) hS ?restR12
    case hyR12 =>
      intro w hSw
      first | (go_simp; done) | (go_simp; with_reducible rfl)
    try simp only [Act.put, List.setIfInBounds_toArray, List.set_cons_zero, List.set_cons_succ]
    refine wpAnyH_ready (rs := [0, 13]) (by kernel_rfl) (by simp) ?_
    refine AllReadyH.cons rfl (fun K hK => ?_) (AllReadyH.cons rfl (fun K hK => ?_) AllReadyH.nil)
    · have hc4 : World.cell? x2.drew ⟨w.heap.size + 1 + 1, 0, none⟩ = some (.slice A1 n1 k1) := hv3d.cell
      go_simp
      refine hK.out _ _ hS (fun _ => ?_)
      clear hK K
      refine wpAnyH_ready (rs := [13]) (by kernel_rfl) (by simp) ?_
      refine AllReadyH.cons rfl (fun K hK => ?_) AllReadyH.nil
      go_simp
      have hSp := hS
      have hS : Below w.heap.size x2 (x2.drew.alloc (.cells #[.string sA, .string sB, .int .i64 (nuV sD), .int .i64 (nuV sE), .string sQ] legT)) := hSp.alloc (Nat.le_trans hsz3 (Nat.le_refl _)) _
      refine hK.out _ _ hS (fun _ => ?_)
      clear hK K
      refine wpAnyH_ready (rs := [14]) (by kernel_rfl) (by simp) ?_
      refine AllReadyH.cons rfl (fun K hK => ?_) AllReadyH.nil
      refine step_rapp rtLq rfl _ _ rfl hO4 rfl (bel_alloc x2.drew _) _ ⟨sA, sB, nuV sD, nuV sE, sQ⟩ _ rfl (cs := #[.string sA, .string sB, .int .i64 (nuV sD), .int .i64 (nuV sE), .string sQ]) rfl (heap_alloc_new _ _) (by rw [hle]; omega) ?_
      intro v8 w8 hO8 hC8
      go_simp
      have hS : Below w.heap.size x2 w8 := (Below.refl w.heap.size x2).drew.trans (hC8.below hO4)
      obtain ⟨A8, n8, k8, rfl⟩ := own_slice hO8.own
      have hv8 : Boxed w8 (w.heap.size + 1 + 1) lgsT (.slice A1 n1 k1) := (hC8.but.block _ hv3d.lt (boxed_not hv3d (by decide) hO4.own).symm).trans hv3d
      have hc8 := hv8.cell
      have hf8 := hv8.frozen
      refine hK.out _ _ hS (fun _ => ?_)
      clear hK K
      refine wpAnyH_ready (rs := [15]) (by kernel_rfl) (by simp) ?_
      refine AllReadyH.cons rfl (fun K hK => ?_) AllReadyH.nil
      go_simp
      have hSp := hS
      have hS : Below w.heap.size x2 (w8.setCell ⟨w.heap.size + 1 + 1, 0, none⟩ (.slice A8 n8 k8)) := hSp.setCell (p := ⟨w.heap.size + 1 + 1, 0, none⟩) (by simp; omega) _
      refine hK.out _ _ hS (fun _ => ?_)
      clear hK K
      refine wpAnyH_done (by kernel_rfl) ?_ _
      try simp only [List.getElem_toArray, List.getElem_cons_succ, List.getElem_cons_zero, List.set_cons_zero, List.set_cons_succ]
      refine ⟨rfl, ?_⟩
      clear hc8 hf8 hSp u0 u1 u4
      gi_wp2
      exact HFIN.out _ _ hO8 hC8 hv8
    · go_simp
      have hSp := hS
      have hS : Below w.heap.size x2 (x2.drew.alloc (.cells #[.string sA, .string sB, .int .i64 (nuV sD), .int .i64 (nuV sE), .string sQ] legT)) := hSp.alloc (Nat.le_trans hsz3 (Nat.le_refl _)) _
      refine hK.out _ _ hS (fun _ => ?_)
      clear hK K
      refine wpAnyH_ready (rs := [0]) (by kernel_rfl) (by simp) ?_
      refine AllReadyH.cons rfl (fun K hK => ?_) AllReadyH.nil
      have hc4 : World.cell? (x2.alloc (.cells #[.string sA, .string sB, .int .i64 (nuV sD), .int .i64 (nuV sE), .string sQ] 64)) ⟨w.heap.size + 1 + 1, 0, none⟩ = some (.slice A1 n1 k1) := (HV3.out.alloc _).cell
      go_simp
      refine hK.out _ _ hS (fun _ => ?_)
      clear hK K
      refine wpAnyH_ready (rs := [14]) (by kernel_rfl) (by simp) ?_
      refine AllReadyH.cons rfl (fun K hK => ?_) AllReadyH.nil
      refine step_rapp rtLq rfl _ _ rfl hO4 rfl (bel_alloc x2.drew _) _ ⟨sA, sB, nuV sD, nuV sE, sQ⟩ _ rfl (cs := #[.string sA, .string sB, .int .i64 (nuV sD), .int .i64 (nuV sE), .string sQ]) rfl (heap_alloc_new _ _) (by rw [hle]; omega) ?_
      intro v8 w8 hO8 hC8
      go_simp
      have hS : Below w.heap.size x2 w8 := (Below.refl w.heap.size x2).drew.trans (hC8.below hO4)
      obtain ⟨A8, n8, k8, rfl⟩ := own_slice hO8.own
      have hv8 : Boxed w8 (w.heap.size + 1 + 1) lgsT (.slice A1 n1 k1) := (hC8.but.block _ hv3d.lt (boxed_not hv3d (by decide) hO4.own).symm).trans hv3d
      have hc8 := hv8.cell
      have hf8 := hv8.frozen
      refine hK.out _ _ hS (fun _ => ?_)
      clear hK K
      refine wpAnyH_ready (rs := [15]) (by kernel_rfl) (by simp) ?_
      refine AllReadyH.cons rfl (fun K hK => ?_) AllReadyH.nil
      go_simp
      have hSp := hS
      have hS : Below w.heap.size x2 (w8.setCell ⟨w.heap.size + 1 + 1, 0, none⟩ (.slice A8 n8 k8)) := hSp.setCell (p := ⟨w.heap.size + 1 + 1, 0, none⟩) (by simp; omega) _
      refine hK.out _ _ hS (fun _ => ?_)
      clear hK K
      refine wpAnyH_done (by kernel_rfl) ?_ _
      try simp only [List.getElem_toArray, List.getElem_cons_succ, List.getElem_cons_zero, List.set_cons_zero, List.set_cons_succ]
      refine ⟨rfl, ?_⟩
      clear hc8 hf8 hSp u0 u1 u4
      gi_wp2
      exact HFIN.out _ _ hO8 hC8 hv8
  case done =>
    rintro D ys W hD hys ⟨⟨⟨v, hv, hown, hgd⟩, ⟨b0', b1'⟩, b3'⟩, hB⟩ hK
    have c0 := b0'.cell
    have c1 := b1'.cell
    have fz0 := b0'.frozen
    have fz1 := b1'.frozen
    have he : erL ss m 0 = 0 := gdC_all hys hgd
    rw [lgsC_range ss hys] at hown
    obtain ⟨A1, n1, k1, rfl⟩ := own_slice hown
    have hc := hv.cell
    gi_wp2
    have bA := (b0'.set (.slice A1 n1 k1)).other (show w.heap.size ≠ w.heap.size + 1 by omega) (.int .i64 0)
    have bB := (b1'.other (show w.heap.size + 1 ≠ w.heap.size by omega) (.slice A1 n1 k1)).set (.int .i64 0)
    have hO1 := hown.kept (grownBy_setCell' W w.heap.size (.slice A1 n1 k1)) (.inr (boxed_not b0' (by decide) hown).symm)
    have hO2 := hO1.kept (grownBy_setCell' _ (w.heap.size + 1) (.int .i64 0)) (.inr (boxed_not (b1'.other (show w.heap.size + 1 ≠ w.heap.size by omega) (.slice A1 n1 k1)) (by decide) hO1).symm)
    have hK' := ((KeepsOthers.setCell W ⟨w.heap.size, 0, none⟩ (.slice A1 n1 k1)).trans (KeepsOthers.setCell _ ⟨w.heap.size + 1, 0, none⟩ (.int .i64 0))).same D _ hK rfl
    have hB2 := (hB.setCell (p := ⟨w.heap.size, 0, none⟩) (Nat.le_refl _) (.slice A1 n1 k1)).setCell (p := ⟨w.heap.size + 1, 0, none⟩) (by simp) (.int .i64 0)
    refine ⟨by simp, .inl ⟨_, _, rfl, run_takeDeferred hK', ?_⟩⟩
    have hcA := cell_kept bA.cell (grownBy_putObj' _ D (.deferred none)) (fun r e => by cases e; exact ⟨_, hK', rfl⟩)
    have hcB := cell_kept bB.cell (grownBy_putObj' _ D (.deferred none)) (fun r e => by cases e; exact ⟨_, hK', rfl⟩)
    have hB3 := hB2.trans (belowK_b (w := w) (Nat.le_refl _) _ D _ (.deferred none) (by omega) hK' rfl rfl)
    refine ⟨.tuple #[.slice A1 n1 k1, .int .i64 0], ?_, .slice A1 n1 k1, by rw [he], fun _ => ?_, fun h => absurd he h, hB3⟩
    · simp [results, Tryz.f48, go_sem, hcA, hcB]
    · exact ⟨(ROwn.mk (e := legT) (sz := 5) (enc := encLg) (B := w.heap.size) (ownsRow_putObj hO2 (.deferred none) hK' rfl) hB3.size).rowL (fun _ => rfl), own_off hO2⟩
  case stop =>
    rintro D c pre W hD ⟨k, hk⟩ ⟨⟨rfl, q, x, rfl, hgd, hne, b0', b1'⟩, hB⟩ hK
    have he : erL ss m 0 = lgEr ss x.1 := gdC_stop hk hgd hne
    have c0 := b0'.cell
    have c1 := b1'.cell
    gi_wp2
    refine ⟨by simp, .inl ⟨_, _, rfl, run_takeDeferred hK, ?_⟩⟩
    have hcA := cell_kept c0 (grownBy_putObj' _ D (.deferred none)) (fun r e => by cases e; exact ⟨_, hK, rfl⟩)
    have hcB := cell_kept c1 (grownBy_putObj' _ D (.deferred none)) (fun r e => by cases e; exact ⟨_, hK, rfl⟩)
    refine ⟨.tuple #[.slice none 0 0, .int .i64 (lgEr ss x.1)], ?_, .slice none 0 0, by rw [he], fun h => absurd (he.symm.trans h) hne, fun _ => rfl, hB.trans (belowK_b (w := w) (Nat.le_refl _) W D _ _ (by omega) hK rfl rfl)⟩
    simp [results, Tryz.f48, go_sem, hcA, hcB]

end Go.Proofs.YtmmpalnalogfnaaGreatDoor.Per

/- text.Words once more, told with the room of its result. -/
namespace Go.Proofs.YtmmpalnalogfnaaGreatDoor
open Go.RowKit Go.Shelf
set_option linter.unusedSimpArgs false
set_option linter.unusedVariables false

/-- a slice is no longer than its room -/
def CapV (v : Value) : Prop := ∀ A n c, v = .slice A n c → n ≤ c
theorem SOwn.capV {e : TypeId} {B : Nat} {w : World} {v : Value} {ss : List ByteArray} (h : SOwn e B w v ss) : CapV v := by
  intro A n c e
  subst e
  rcases h.own.2 with ⟨e, _⟩ | ⟨g, cap, cur, e, h2, h3, h4⟩
  · cases e; exact Nat.le_refl _
  · cases e; exact h4.1
set_option maxRecDepth 100000 in
set_option maxHeartbeats 4000000 in
theorem words_cap (s : ByteArray) (l : List (List UInt8)) (w : World) (hs : s.size ≤ 40000) (h : s.data.toList = joinL l) :
    Calls Tryz.prog 45 #[.string s] w fun e w' => (∃ v ss, e = .returned (.tuple #[v, .int .i64 0]) ∧ StrL w' v ss ∧ bytesOf ss = l ∧ CapV v) ∧ Below w.heap.size w w' := by
  by_cases h0 : 0 < s.size
  case neg =>
    have t1 := isEmpty_yes s (by omega)
    have hl : l = [] := by
      rcases Classical.em (l = []) with h' | h'
      · exact h'
      · have := joinL_ne l h'
        rw [← h] at this
        exact absurd (List.eq_nil_of_length_eq_zero (by simp only [Array.length_toList, ByteArray.size_data]; omega)) this
    subst hl
    clear h
    go_enter Tryz.func45, Tryz.ntmps45
    go_wp2
    go_step3
    go_wp2
    rw [Exit.noGoto_ret]
    go_ret2
    exact ⟨⟨_, [], rfl, ⟨none, 0, rfl, .inl rfl⟩, rfl, fun A n c e => by cases e; exact Nat.le_refl _⟩, Below.refl _ _⟩
  have t1 := isEmpty_no s h0
  have hln : l ≠ [] := by
    intro e; rw [e] at h
    have := congrArg List.length h
    simp [joinL] at this
    subst this
    simp at h0
  have HJ := Lib.hid h
  have HLN := Lib.hid hln
  clear h hln
  go_enter Tryz.func45, Tryz.ntmps45
  go_wp2
  go_step3
  go_wp2
  go_step3
  go_wp2
  generalize hS : s ++ ({ data := #[32] } : ByteArray) = S
  have hsz : S.size = s.size + 1 := by rw [← hS]; simp; rfl
  have hbl : S.data.toList = s.data.toList ++ [32] := by rw [← hS]; simp
  have HA0 := at_zero l
  rw [flat_eq l HLN.out, ← HJ.out, ← hbl] at HA0
  have HBL := Lib.hid hbl
  have HSZ := Lib.hid hsz
  have hS1 : S.size ≤ 40001 := by omega
  clear hS hbl hsz
  have hI0 : (w.iter S 0).heap[w.heap.size]? = some (.stringIter S 0) := World.iter_heap w S 0
  have hB0 : Below w.heap.size w (w.iter S 0) := (Below.refl _ _).alloc (Nat.le_refl _) _
  have hO0 : SOwn 9 (w.heap.size + 1) (w.iter S 0) (.slice none 0 0) [] := SOwn.nil (by simp [World.iter])
  go_loopw [4, 5, 6, 7] (fun v st q e wr => ∃ (pos start m : Nat) (bq be : Bool) (ss : List ByteArray), pos ≤ S.size ∧ ss.length ≤ pos ∧ st = .int .i64 start ∧ q = .bool bq ∧ e = .bool be ∧
      SOwn 9 (w.heap.size + 1) wr v ss ∧ wr.heap[w.heap.size]? = some (.stringIter S pos) ∧ Below w.heap.size w wr ∧ Hid (bytesOf ss = l.take m) ∧ At l S.data.toList m pos start bq be)
    (fun _ _ _ _ wr => S.size - wr.iterPos w.heap.size)
  case atStart => exact ⟨0, 0, 0, false, false, [], Nat.zero_le _, Nat.le_refl _, rfl, rfl, rfl, hO0, hI0, hB0, Lib.hid rfl, HA0⟩
  case round =>
    obtain ⟨pos, start, m, bq, be, ss, hp, hsl, rfl, rfl, rfl, hO, hI, hB, HE, hA⟩ := hrel
    have hps := iterPos_of hI
    have hst := at_le hA
    have hlS : S.data.toList.length = S.size := by simp
    by_cases hlt : pos < S.size
    · obtain ⟨hca, hA2⟩ := at_step hA (by omega)
      have hce : S.data.toList[pos]'(by omega) = S[pos] := rfl
      rw [hce] at hca hA2
      have hnext := fun ty => Lib.run_next_ascii_at (P := Tryz.prog) wr w.heap.size S pos ty hI hlt hca
      obtain ⟨hI2, hz2⟩ := iter_step wr w.heap.size S pos (pos + 1) hI
      have hO2 := hO.iterAt (Nat.lt_succ_self _) S (pos + 1)
      have hB2 : Below w.heap.size w (wr.iterAt w.heap.size S (pos + 1)) := Lib.below_iterAt hB (Nat.le_refl _) S (pos + 1)
      generalize wr.iterAt w.heap.size S (pos + 1) = wi at *
      have hps2 := Lib.hid (iterPos_of hI2)
      have HPS := Lib.hid hps
      clear hps hO hI hB hz2 hlS hce
      rcases hA2 with ⟨h32, rfl, rfl, t, htk, hpc, hA3⟩ | ⟨hok, hA3⟩
      · have t92 : ((S[pos].toNat : Int) == 92) = false := by simp; omega
        have t34 : ((S[pos].toNat : Int) == 34) = false := by simp; omega
        have t32 : ((S[pos].toNat : Int) == 32) = true := by simp; omega
        have hpe : pos ≤ s.size := by have := HSZ.out; omega
        have hsx : (s.extract start pos).size ≤ 40000 := by simp [ByteArray.size_extract]; omega
        have HT : Hid ((s.extract start pos).data.toList = encW t) := Lib.hid (by
          rw [extract_list, ← hpc, HBL.out, List.take_append_of_le_length (by simpa using hpe)])
        have HE2 : Hid (bytesOf (ss ++ [⟨t.toArray⟩]) = l.take (m + 1)) := Lib.hid (by rw [bytesOf_snoc, HE.out, htk])
        clear h32 htk hpc hca hA
        go_wp2_with (first
          | (go_at_call 112; refine (word_yes _ t _ hsx HT.out).mono ?_; rintro e w2 ⟨rfl, hb2⟩; have hO3 := hO2.more hb2; have hI3 := (hb2.block w.heap.size (by have := hO2.base; omega)).trans hI2; have hB3 := hB2.trans (hb2.mono hB2.size))
          | (at_builtin; refine wpList_sapp strT rfl _ _ rfl _ ss rfl (hO3.alloc _) _ ⟨t.toArray⟩ _ rfl (heap_alloc_new _ _) (by omega) ?_; intro v' w3 hO4 hb4))
        have hlt2 : w.heap.size < w2.heap.size := by have := hO3.base; omega
        have hI4 : w3.heap[w.heap.size]? = some (.stringIter S (pos + 1)) := (hb4.block _ (by omega)).trans ((Below.heap_alloc w2 _ _ hlt2).trans hI3)
        have hB4 : Below w.heap.size w w3 := (hB3.alloc hB3.size _).trans (hb4.mono (by omega))
        go_roundw
        case rel => exact ⟨pos + 1, pos + 1, m + 1, false, false, _, by omega, by simp; omega, by go_num, rfl, rfl, hO4, hI4, hB4, HE2, hA3⟩
        case measure => rw [iterPos_of hI4, HPS.out]; omega
      · cases be
        · by_cases h92 : S[pos].toNat = 92
          · have t92 : ((S[pos].toNat : Int) == 92) = true := by simp; omega
            obtain ⟨e1, e2⟩ := scan_92 bq _ h92
            rw [e1, e2] at hA3
            clear h92 hok e1 e2 hca hA
            go_wp2
            go_roundw
            case rel => exact ⟨pos + 1, start, m, bq, bq, ss, by omega, by omega, rfl, rfl, rfl, hO2, hI2, hB2, HE, hA3⟩
            case measure => rw [hps2.out, HPS.out]; omega
          have t92 : ((S[pos].toNat : Int) == 92) = false := by simp; omega
          by_cases h34 : S[pos].toNat = 34
          · have t34 : ((S[pos].toNat : Int) == 34) = true := by simp; omega
            obtain ⟨e1, e2⟩ := scan_34 bq _ h34
            rw [e1, e2] at hA3
            clear h34 h92 hok e1 e2 hca hA
            go_wp2
            go_roundw
            case rel => exact ⟨pos + 1, start, m, !bq, false, ss, by omega, by omega, rfl, rfl, rfl, hO2, hI2, hB2, HE, hA3⟩
            case measure => rw [hps2.out, HPS.out]; omega
          have t34 : ((S[pos].toNat : Int) == 34) = false := by simp; omega
          obtain ⟨e1, e2⟩ := scan_o bq _ h34 h92
          rw [e1, e2] at hA3
          by_cases h32 : S[pos].toNat = 32
          · have t32 : ((S[pos].toNat : Int) == 32) = true := by simp; omega
            have hbq : bq = true := by simpa [h32] using hok
            subst hbq
            clear h34 h92 h32 hok e1 e2 hca hA
            go_wp2
            go_roundw
            case rel => exact ⟨pos + 1, start, m, true, false, ss, by omega, by omega, rfl, rfl, rfl, hO2, hI2, hB2, HE, hA3⟩
            case measure => rw [hps2.out, HPS.out]; omega
          have t32 : ((S[pos].toNat : Int) == 32) = false := by simp; omega
          clear h34 h92 h32 hok e1 e2 hca hA
          go_wp2
          go_roundw
          case rel => exact ⟨pos + 1, start, m, bq, false, ss, by omega, by omega, rfl, rfl, rfl, hO2, hI2, hB2, HE, hA3⟩
          case measure => rw [hps2.out, HPS.out]; omega
        · obtain ⟨e1, e2⟩ := scan_e bq S[pos]
          rw [e1, e2] at hA3
          clear hok e1 e2 hca hA
          go_wp2
          go_roundw
          case rel => exact ⟨pos + 1, start, m, bq, false, ss, by omega, by omega, rfl, rfl, rfl, hO2, hI2, hB2, HE, hA3⟩
          case measure => rw [hps2.out, HPS.out]; omega
    · have hnext := fun ty => Lib.run_next_end_at (P := Tryz.prog) wr w.heap.size S pos ty hI hlt
      obtain ⟨htk, hse⟩ := at_end hA (by omega)
      have HTK := Lib.hid htk
      have hle : ¬ (start : Int) ≤ (s.size : Int) := by have := HSZ.out; omega
      clear htk hlS hps hA
      go_wp2
      go_ret2
      exact ⟨⟨_, ss, rfl, hO.strL, by rw [HE.out, HTK.out], hO.capV⟩, hB⟩
end Go.Proofs.YtmmpalnalogfnaaGreatDoor

/- Walk of Parse. -/
namespace Go.Proofs.YtmmpalnalogfnaaGreatDoor.Per
open Go.RowKit
set_option linter.unusedSimpArgs false
set_option linter.unusedVariables false

theorem split_no (s : ByteArray) (hs : s.size ≤ 1000) (h : (cutL s.data.toList).length ≠ 3) (w : World) (hE : Env0 w) : Calls Tryz.prog 115 #[.string s, .string ⟨#[47]⟩, .int .i64 4] w fun e w' => ∃ A n c, e = .returned (.slice A n c) ∧ ((n : Int) != 3) = true ∧ Below w.heap.size w w' := by
  refine (splitn_any s w hs hE).mono ?_
  rintro e w' ⟨v, ss, rfl, hv, h1, _, hb⟩
  obtain ⟨A, c, rfl⟩ := (StrL.form hv)
  exact ⟨A, _, c, rfl, by have := h1 h; rw [bne_iff_ne]; omega, hb⟩
theorem split_yes (s : ByteArray) (hs : s.size ≤ 1000) {x y z : List UInt8} (h : cutL s.data.toList = [x, y, z]) (w : World) (hE : Env0 w) : Calls Tryz.prog 115 #[.string s, .string ⟨#[47]⟩, .int .i64 4] w fun e w' => ∃ b o c, e = .returned (.slice (some ⟨b, o, none⟩) 3 c) ∧ Parts3 w' b o (mk x) (mk y) (mk z) ∧ Below w.heap.size w w' := by
  refine (splitn_any s w hs hE).mono ?_
  rintro e w' ⟨v, ss, rfl, hv, _, h2, hb⟩
  have h3 := h2 (by rw [h]; rfl)
  rw [h] at h3
  rw [lists_three h3] at hv
  obtain ⟨b, o, c, rfl, hp⟩ := (StrL.three hv)
  exact ⟨b, o, c, rfl, hp, hb⟩
theorem bparse_any (x : List UInt8) (w : World) (hs : x.length ≤ 1000) : Calls Tryz.prog 116 #[.string (mk x)] w fun e w' => e = .returned (.tuple #[.int .i64 (parseP x).1, .int .i64 (parseP x).2]) ∧ Below w.heap.size w w' := parse_any (mk x) w hs
theorem bdigits_any (x : List UInt8) (w : World) (hs : x.length ≤ 1000) : Calls Tryz.prog 117 #[.string (mk x)] w fun e w' => e = .returned (.tuple #[.int .i64 (dgF 0 x).1, .int .i64 (dgF 0 x).2]) ∧ w = w' := readDigits_any (mk x) w hs
theorem newBox (w : World) (p : Per) : BoxAt (w.alloc (.cells #[.int .i64 p.1, .int .i64 p.2.1, .int .i64 p.2.2] perT)) w.heap.size p := heap_alloc_new w _
theorem ne_true {x : Int} (h : x ≠ 0) : (x != 0) = true := by rw [bne_iff_ne]; exact h

set_option maxRecDepth 100000 in
set_option maxHeartbeats 4000000 in
theorem pparse_any (s : ByteArray) (w : World) (hs : s.size ≤ 1000) (hE : Env0 w) : Calls Tryz.prog 47 #[.string s] w fun e W' => e = .returned (.tuple #[encQ (perR s.data.toList).1, .int .i64 (perR s.data.toList).2]) ∧ Below w.heap.size w W' := by
  have hbR : BoxAt (w.alloc (.cells #[.int .i64 0, .int .i64 0, .int .i64 0] perT)) w.heap.size (0, 0, 0) := heap_alloc_new w _
  have hb0 : Below w.heap.size w (w.alloc (.cells #[.int .i64 0, .int .i64 0, .int .i64 0] perT)) := bel_alloc w _
  have hE1 := hE.more hb0
  by_cases h : (cutL s.data.toList).length = 3
  case neg =>
    have HR := Lib.hid (perR_len h)
    have CS := Lib.hid (split_no s hs h)
    clear h
    go_enter Tryz.func47, Tryz.ntmps47
    go_wp2_with (go_at_call 115; refine (CS.out _ hE1).mono ?_; rintro e w1 ⟨A, n, c, rfl, t1, hb⟩; have hR2 := hbR.more hb; have c0 := hR2.cell.1; have c1 := hR2.cell.2.1; have c2 := hR2.cell.2.2; have f0 := hR2.frozen 0; have f1 := hR2.frozen 1; have f2 := hR2.frozen 2)
    obtain ⟨h1, h2⟩ := hR2.result (0, 0, 0) (by omega) (hb0.trans (hb.mono (by simp)))
    obtain ⟨d0, d1, d2⟩ := h1.cell
    refine bodyPost_ret (v := .tuple #[encQ (0, 0, 0), .int .i64 3]) ?_ rfl ⟨by rw [HR.out], h2⟩
    simp [results, Tryz.results47, go_sem, d0, d1, d2]
  obtain ⟨x, y, z, hxyz⟩ : ∃ x y z, cutL s.data.toList = [x, y, z] := by
    match hc : cutL s.data.toList, h with
    | [x, y, z], _ => exact ⟨x, y, z, rfl⟩
  have CS := Lib.hid (split_yes s hs hxyz)
  have hl : s.data.toList.length = s.size := by simp
  have lx : x.length ≤ 1000 := by have := cut_part_le s.data.toList x (by rw [hxyz]; simp); omega
  have ly : y.length ≤ 1000 := by have := cut_part_le s.data.toList y (by rw [hxyz]; simp); omega
  have lz : z.length ≤ 1000 := by have := cut_part_le s.data.toList z (by rw [hxyz]; simp); omega
  have CX := Lib.hid (fun W => bparse_any x W lx)
  have CY := Lib.hid (fun W => bparse_any y W ly)
  have CZ := Lib.hid (fun W => bdigits_any z W lz)
  have HP := perR_three hxyz
  clear hxyz h hl lx ly lz
  by_cases ea : (parseP x).2 = 0
  case neg =>
    have HR := Lib.hid (HP.trans (per3_a ea))
    have t2 := ne_true ea
    clear HP CY CZ ea
    generalize (parseP x).1 = f at *
    generalize (parseP x).2 = e1 at *
    generalize mk x = X at *
    generalize mk y = Y at *
    generalize mk z = Z at *
    go_enter Tryz.func47, Tryz.ntmps47
    go_wp2_with (first
      | (go_at_call 115; refine (CS.out _ hE1).mono ?_; rintro e w1 ⟨b, o, c, rfl, hP, hb⟩; have hR1 := hbR.more hb; have p0 := hP.c0)
      | (go_at_call 116; refine (CX.out _).mono ?_; rintro e w2 ⟨rfl, hb2⟩; have hR2 := hR1.more hb2; have c0 := hR2.cell.1; have c1 := hR2.cell.2.1; have c2 := hR2.cell.2.2; have f0 := hR2.frozen 0; have f1 := hR2.frozen 1; have f2 := hR2.frozen 2))
    have hs1 := hb0.trans (hb.mono (by simp))
    obtain ⟨h1, h2⟩ := hR2.result (0, 0, 0) (by omega) (hs1.trans (hb2.mono hs1.size))
    obtain ⟨d0, d1, d2⟩ := h1.cell
    refine bodyPost_ret (v := .tuple #[encQ (0, 0, 0), .int .i64 e1]) ?_ rfl ⟨by rw [HR.out], h2⟩
    simp [results, Tryz.results47, go_sem, d0, d1, d2]
  by_cases eb : (parseP y).2 = 0
  case neg =>
    have HR := Lib.hid (HP.trans (per3_b ea eb))
    have t2 := ne_true eb
    rw [ea] at CX
    clear HP CZ ea eb
    generalize (parseP x).1 = f at *
    generalize (parseP y).1 = g at *
    generalize (parseP y).2 = e2 at *
    generalize mk x = X at *
    generalize mk y = Y at *
    generalize mk z = Z at *
    go_enter Tryz.func47, Tryz.ntmps47
    go_wp2_with (first
      | (go_at_call 115; refine (CS.out _ hE1).mono ?_; rintro e w1 ⟨b, o, c, rfl, hP, hb⟩; have hR1 := hbR.more hb; have p0 := hP.c0)
      | (go_at_call 116; first | (with_reducible refine (CX.out _).mono ?_; rintro e w2 ⟨rfl, hb2⟩; have hR2 := hR1.more hb2; have p1 := (hP.more hb2).c1) | (with_reducible refine (CY.out _).mono ?_; rintro e w3 ⟨rfl, hb3⟩; have hR3 := hR2.more hb3; have c0 := hR3.cell.1; have c1 := hR3.cell.2.1; have c2 := hR3.cell.2.2; have f0 := hR3.frozen 0; have f1 := hR3.frozen 1; have f2 := hR3.frozen 2)))
    have hs1 := hb0.trans (hb.mono (by simp))
    have hs2 := hs1.trans (hb2.mono hs1.size)
    obtain ⟨h1, h2⟩ := hR3.result (0, 0, 0) (by omega) (hs2.trans (hb3.mono hs2.size))
    obtain ⟨d0, d1, d2⟩ := h1.cell
    refine bodyPost_ret (v := .tuple #[encQ (0, 0, 0), .int .i64 e2]) ?_ rfl ⟨by rw [HR.out], h2⟩
    simp [results, Tryz.results47, go_sem, d0, d1, d2]
  by_cases ec : (dgF 0 z).2 = 0
  case neg =>
    have HR := Lib.hid (HP.trans (per3_c ea eb ec))
    have t2 := ne_true ec
    rw [ea] at CX
    rw [eb] at CY
    clear HP ea eb ec
    generalize (parseP x).1 = f at *
    generalize (parseP y).1 = g at *
    generalize (dgF 0 z).1 = d at *
    generalize (dgF 0 z).2 = e3 at *
    generalize mk x = X at *
    generalize mk y = Y at *
    generalize mk z = Z at *
    go_enter Tryz.func47, Tryz.ntmps47
    go_wp2_with (first
      | (go_at_call 115; refine (CS.out _ hE1).mono ?_; rintro e w1 ⟨b, o, c, rfl, hP, hb⟩; have hR1 := hbR.more hb; have p0 := hP.c0)
      | (go_at_call 116; first | (with_reducible refine (CX.out _).mono ?_; rintro e w2 ⟨rfl, hb2⟩; have hR2 := hR1.more hb2; have p1 := (hP.more hb2).c1) | (with_reducible refine (CY.out _).mono ?_; rintro e w3 ⟨rfl, hb3⟩; have hR3 := hR2.more hb3; have p2 := ((hP.more hb2).more hb3).c2; have c0 := hR3.cell.1; have c1 := hR3.cell.2.1; have c2 := hR3.cell.2.2; have f0 := hR3.frozen 0; have f1 := hR3.frozen 1; have f2 := hR3.frozen 2))
      | (go_at_call 117; refine (CZ.out _).mono ?_; rintro e w' ⟨rfl, rfl⟩))
    have hs1 := hb0.trans (hb.mono (by simp))
    have hs2 := hs1.trans (hb2.mono hs1.size)
    obtain ⟨h1, h2⟩ := hR3.result (0, 0, 0) (by omega) (hs2.trans (hb3.mono hs2.size))
    obtain ⟨d0, d1, d2⟩ := h1.cell
    refine bodyPost_ret (v := .tuple #[encQ (0, 0, 0), .int .i64 e3]) ?_ rfl ⟨by rw [HR.out], h2⟩
    simp [results, Tryz.results47, go_sem, d0, d1, d2]
  have CK := Lib.hid (fun W => check_any (parseP x).1 (parseP y).1 (dgF 0 z).1 W)
  by_cases ed : errQ ((parseP x).1, (parseP y).1, (dgF 0 z).1) = 0
  case neg =>
    have HR := Lib.hid (HP.trans (per3_d ea eb ec ed))
    have t2 := ne_true ed
    rw [ea] at CX
    rw [eb] at CY
    rw [ec] at CZ
    clear HP ea eb ec ed
    generalize errQ ((parseP x).1, (parseP y).1, (dgF 0 z).1) = e4 at *
    generalize (parseP x).1 = f at *
    generalize (parseP y).1 = g at *
    generalize (dgF 0 z).1 = d at *
    generalize mk x = X at *
    generalize mk y = Y at *
    generalize mk z = Z at *
    go_enter Tryz.func47, Tryz.ntmps47
    go_wp2_with (first
      | (go_at_call 115; refine (CS.out _ hE1).mono ?_; rintro e w1 ⟨b, o, c, rfl, hP, hb⟩; have hR1 := hbR.more hb; have p0 := hP.c0)
      | (go_at_call 116; first | (with_reducible refine (CX.out _).mono ?_; rintro e w2 ⟨rfl, hb2⟩; have hR2 := hR1.more hb2; have p1 := (hP.more hb2).c1) | (with_reducible refine (CY.out _).mono ?_; rintro e w3 ⟨rfl, hb3⟩; have hR3 := hR2.more hb3; have p2 := ((hP.more hb2).more hb3).c2))
      | (go_at_call 117; refine (CZ.out _).mono ?_; rintro e w' ⟨rfl, rfl⟩; have hR4 := hR3.more (bel_alloc w3 (.cells #[.int .i64 f, .int .i64 g, .int .i64 d] perT)); have hQ4 := newBox w3 (f, g, d); have q0 := hQ4.cell.1; have q1 := hQ4.cell.2.1; have q2 := hQ4.cell.2.2)
      | (go_at_call 66; refine (CK.out _).mono ?_; rintro e w5 ⟨rfl, hb5⟩; have hR5 := hR4.more hb5; have hQ5 := hQ4.more hb5; have v0 := hQ5.cell.1; have v1 := hQ5.cell.2.1; have v2 := hQ5.cell.2.2; have c0 := hR5.cell.1; have c1 := hR5.cell.2.1; have c2 := hR5.cell.2.2; have f0 := hR5.frozen 0; have f1 := hR5.frozen 1; have f2 := hR5.frozen 2))
    have hs1 := hb0.trans (hb.mono (by simp))
    have hs2 := hs1.trans (hb2.mono hs1.size)
    have hs3 := hs2.trans (hb3.mono hs2.size)
    have hs4 := hs3.alloc hs3.size (.cells #[.int .i64 f, .int .i64 g, .int .i64 d] perT)
    obtain ⟨h1, h2⟩ := hR5.result (0, 0, 0) (by omega) (hs4.trans (hb5.mono hs4.size))
    obtain ⟨d0, d1, d2⟩ := h1.cell
    refine bodyPost_ret (v := .tuple #[encQ (0, 0, 0), .int .i64 e4]) ?_ rfl ⟨by rw [HR.out], h2⟩
    simp [results, Tryz.results47, go_sem, d0, d1, d2]
  · have HR := Lib.hid (HP.trans (per3_ok ea eb ec ed))
    rw [ed] at CK
    rw [ea] at CX
    rw [eb] at CY
    rw [ec] at CZ
    clear HP ea eb ec ed
    generalize (parseP x).1 = f at *
    generalize (parseP y).1 = g at *
    generalize (dgF 0 z).1 = d at *
    generalize mk x = X at *
    generalize mk y = Y at *
    generalize mk z = Z at *
    go_enter Tryz.func47, Tryz.ntmps47
    go_wp2_with (first
      | (go_at_call 115; refine (CS.out _ hE1).mono ?_; rintro e w1 ⟨b, o, c, rfl, hP, hb⟩; have hR1 := hbR.more hb; have p0 := hP.c0)
      | (go_at_call 116; first | (with_reducible refine (CX.out _).mono ?_; rintro e w2 ⟨rfl, hb2⟩; have hR2 := hR1.more hb2; have p1 := (hP.more hb2).c1) | (with_reducible refine (CY.out _).mono ?_; rintro e w3 ⟨rfl, hb3⟩; have hR3 := hR2.more hb3; have p2 := ((hP.more hb2).more hb3).c2))
      | (go_at_call 117; refine (CZ.out _).mono ?_; rintro e w' ⟨rfl, rfl⟩; have hR4 := hR3.more (bel_alloc w3 (.cells #[.int .i64 f, .int .i64 g, .int .i64 d] perT)); have hQ4 := newBox w3 (f, g, d); have q0 := hQ4.cell.1; have q1 := hQ4.cell.2.1; have q2 := hQ4.cell.2.2)
      | (go_at_call 66; refine (CK.out _).mono ?_; rintro e w5 ⟨rfl, hb5⟩; have hR5 := hR4.more hb5; have hQ5 := hQ4.more hb5; have v0 := hQ5.cell.1; have v1 := hQ5.cell.2.1; have v2 := hQ5.cell.2.2; have c0 := hR5.cell.1; have c1 := hR5.cell.2.1; have c2 := hR5.cell.2.2; have f0 := hR5.frozen 0; have f1 := hR5.frozen 1; have f2 := hR5.frozen 2))
    have hs1 := hb0.trans (hb.mono (by simp))
    have hs2 := hs1.trans (hb2.mono hs1.size)
    have hs3 := hs2.trans (hb3.mono hs2.size)
    have hs4 := hs3.alloc hs3.size (.cells #[.int .i64 f, .int .i64 g, .int .i64 d] perT)
    obtain ⟨h1, h2⟩ := hR5.result (f, g, d) (by omega) (hs4.trans (hb5.mono hs4.size))
    obtain ⟨d0, d1, d2⟩ := h1.cell
    refine bodyPost_ret (v := .tuple #[encQ (f, g, d), .int .i64 0]) ?_ rfl ⟨by rw [HR.out], h2⟩
    simp [results, Tryz.results47, go_sem, d0, d1, d2]

end Go.Proofs.YtmmpalnalogfnaaGreatDoor.Per
