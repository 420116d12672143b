/- Words and walks that the laws below ask: ClosSB, SchJ, RDec, SchJ2, PlaR, PlaY, PlaZ, PlaQA, PlaQB, PlaQC. -/
import Derived.Lib.ItoaLen
import Derived.Deep.CutRange
import Derived.Deep.Onto
import Derived.Deep.LoopGhost
import Derived.Test.YtldillnjnjkkgaaGreatDoorPk1
import Derived.Test.YtldillnjnjkkgaaGreatDoorPk2
import Derived.Test.YtldillnjnjkkgaaGreatDoorPk4
import Derived.Test.YtldillnjnjkkgaaGreatDoorPk8
import Derived.Test.YtldillnjnjkkgaaGreatDoorPk10
import Derived.Test.YtldillnjnjkkgaaGreatDoorPk15
/- Closed facts on the program and its rows: what each law names, whom it follows. -/
namespace Go.Proofs.YtldillnjnjkkgaaGreatDoor

theorem scheduleChecks_c1 : Tryz.pinned.checked.prog.inPlace 4 = Rows.scheduleChecksUptoRow.inPlace := by kernel_rfl
theorem scheduleChecks_c2 : Tryz.pinned.checked.prog.unfollowed 4 = Rows.scheduleChecksUptoRow.unfollowed := by kernel_rfl
theorem scheduleChecks_c3 : Tryz.pinned.checked.prog.recurses 4 = Rows.scheduleChecksUptoRow.recurses := by kernel_rfl
theorem scheduleChecks_c4 : Tryz.pinned.checked.prog.varsNamed 4 = Rows.scheduleChecksUptoRow.named := by kernel_rfl

end Go.Proofs.YtldillnjnjkkgaaGreatDoor

/- Walk of the reference's meets. -/
namespace Go.Proofs.YtldillnjnjkkgaaGreatDoor
open Go.RowKit Go.Shelf Go.Maps
set_option linter.unusedSimpArgs false
set_option linter.unusedVariables false

theorem meetP_any (a b : Int × Int × Int) (w : World) (ha : (-9223372036854775808 ≤ a.1 ∧ a.1 ≤ 9223372036854775807) ∧ (-9223372036854775808 ≤ a.2.1 ∧ a.2.1 ≤ 9223372036854775807) ∧ (-9223372036854775808 ≤ a.2.2 ∧ a.2.2 ≤ 9223372036854775807)) : Calls Tryz.prog 163 #[.agg #[.int .i64 a.1, .int .i64 a.2.1, .int .i64 a.2.2], .agg #[.int .i64 b.1, .int .i64 b.2.1, .int .i64 b.2.2]] w fun e W' => ∃ m0 m1 m2, e = .returned (.tuple #[.agg #[.int .i64 m0, .int .i64 m1, .int .i64 m2], .bool (Per.ofQ (Per.mtQ a b)).2]) ∧ Below w.heap.size w W' :=
  (Per.rmeet_any a b w ha).mono (by rintro e w' ⟨rfl, hb⟩; exact ⟨_, _, _, rfl, hb⟩)
set_option maxRecDepth 100000 in
set_option maxHeartbeats 8000000 in
theorem rmeets_any (a b : FV) (w : World) (ha : (-9223372036854775808 ≤ a.pf ∧ a.pf ≤ 9223372036854775807) ∧ (-9223372036854775808 ≤ a.pt ∧ a.pt ≤ 9223372036854775807) ∧ (-9223372036854775808 ≤ a.pd ∧ a.pd ≤ 9223372036854775807)) :
    Calls Tryz.prog 80 #[encFl a, encFl b] w fun e w' => e = .returned (.bool (mtsB a b)) ∧ Below w.heap.size w w' := by
  have hb1 := bel_alloc w (.cells #[.string a.car, .int .i64 a.num, .int .i64 a.pf, .int .i64 a.pt, .int .i64 a.pd, .slice a.A a.lg.length a.c] fliT)
  have hb2 := bel_alloc (w.alloc (.cells #[.string a.car, .int .i64 a.num, .int .i64 a.pf, .int .i64 a.pt, .int .i64 a.pd, .slice a.A a.lg.length a.c] fliT)) (.cells #[.string b.car, .int .i64 b.num, .int .i64 b.pf, .int .i64 b.pt, .int .i64 b.pd, .slice b.A b.lg.length b.c] fliT)
  have hs1 := hb1.trans (hb2.mono hb1.size)
  have p0 := bel_cell hb2 ((cells_new w #[.string a.car, .int .i64 a.num, .int .i64 a.pf, .int .i64 a.pt, .int .i64 a.pd, .slice a.A a.lg.length a.c] fliT 0).trans (show _ = some (Value.string a.car) from rfl))
  have q0 := (cells_new (w.alloc (.cells #[.string a.car, .int .i64 a.num, .int .i64 a.pf, .int .i64 a.pt, .int .i64 a.pd, .slice a.A a.lg.length a.c] fliT)) #[.string b.car, .int .i64 b.num, .int .i64 b.pf, .int .i64 b.pt, .int .i64 b.pd, .slice b.A b.lg.length b.c] fliT 0).trans (show _ = some (Value.string b.car) from rfl)
  have p1 := bel_cell hb2 ((cells_new w #[.string a.car, .int .i64 a.num, .int .i64 a.pf, .int .i64 a.pt, .int .i64 a.pd, .slice a.A a.lg.length a.c] fliT 1).trans (show _ = some (Value.int .i64 a.num) from rfl))
  have q1 := (cells_new (w.alloc (.cells #[.string a.car, .int .i64 a.num, .int .i64 a.pf, .int .i64 a.pt, .int .i64 a.pd, .slice a.A a.lg.length a.c] fliT)) #[.string b.car, .int .i64 b.num, .int .i64 b.pf, .int .i64 b.pt, .int .i64 b.pd, .slice b.A b.lg.length b.c] fliT 1).trans (show _ = some (Value.int .i64 b.num) from rfl)
  have p2 := bel_cell hb2 ((cells_new w #[.string a.car, .int .i64 a.num, .int .i64 a.pf, .int .i64 a.pt, .int .i64 a.pd, .slice a.A a.lg.length a.c] fliT 2).trans (show _ = some (Value.int .i64 a.pf) from rfl))
  have q2 := (cells_new (w.alloc (.cells #[.string a.car, .int .i64 a.num, .int .i64 a.pf, .int .i64 a.pt, .int .i64 a.pd, .slice a.A a.lg.length a.c] fliT)) #[.string b.car, .int .i64 b.num, .int .i64 b.pf, .int .i64 b.pt, .int .i64 b.pd, .slice b.A b.lg.length b.c] fliT 2).trans (show _ = some (Value.int .i64 b.pf) from rfl)
  have p3 := bel_cell hb2 ((cells_new w #[.string a.car, .int .i64 a.num, .int .i64 a.pf, .int .i64 a.pt, .int .i64 a.pd, .slice a.A a.lg.length a.c] fliT 3).trans (show _ = some (Value.int .i64 a.pt) from rfl))
  have q3 := (cells_new (w.alloc (.cells #[.string a.car, .int .i64 a.num, .int .i64 a.pf, .int .i64 a.pt, .int .i64 a.pd, .slice a.A a.lg.length a.c] fliT)) #[.string b.car, .int .i64 b.num, .int .i64 b.pf, .int .i64 b.pt, .int .i64 b.pd, .slice b.A b.lg.length b.c] fliT 3).trans (show _ = some (Value.int .i64 b.pt) from rfl)
  have p4 := bel_cell hb2 ((cells_new w #[.string a.car, .int .i64 a.num, .int .i64 a.pf, .int .i64 a.pt, .int .i64 a.pd, .slice a.A a.lg.length a.c] fliT 4).trans (show _ = some (Value.int .i64 a.pd) from rfl))
  have q4 := (cells_new (w.alloc (.cells #[.string a.car, .int .i64 a.num, .int .i64 a.pf, .int .i64 a.pt, .int .i64 a.pd, .slice a.A a.lg.length a.c] fliT)) #[.string b.car, .int .i64 b.num, .int .i64 b.pf, .int .i64 b.pt, .int .i64 b.pd, .slice b.A b.lg.length b.c] fliT 4).trans (show _ = some (Value.int .i64 b.pd) from rfl)
  rw [World.size_alloc] at q0 q1 q2 q3 q4
  have KM := Lib.hid (fun W => meetP_any (a.pf, a.pt, a.pd) (b.pf, b.pt, b.pd) W ha)
  dsimp only at KM
  obtain ⟨s, hs⟩ : ∃ s, s = (Per.ofQ (Per.mtQ (a.pf, a.pt, a.pd) (b.pf, b.pt, b.pd))).2 := ⟨_, rfl⟩
  have HR : Hid (mtsB a b = (((a.car.toList == b.car.toList) && (a.num == b.num)) && s)) := Lib.hid (by rw [hs]; rfl)
  rw [← hs] at KM
  have HB0 := Lib.hid hs1
  clear hs ha hb1 hb2 hs1
  go_enter Tryz.func80, Tryz.ntmps80
  go_upto_region 1 with fail
  generalize hw5 : ((w.alloc (.cells #[.string a.car, .int .i64 a.num, .int .i64 a.pf, .int .i64 a.pt, .int .i64 a.pd, .slice a.A a.lg.length a.c] fliT)).alloc (.cells #[.string b.car, .int .i64 b.num, .int .i64 b.pf, .int .i64 b.pt, .int .i64 b.pd, .slice b.A b.lg.length b.c] fliT)) = w5 at *
  clear hw5
  go_upto_region 2 with (go_at_call 163; refine (KM.out _).mono ?_; rintro e w7 ⟨m0, m1, m2, rfl, hb7⟩)
  have hb8 := bel_alloc w7 (.cells #[.int .i64 m0, .int .i64 m1, .int .i64 m2] 23)
  have hb78 := hb7.trans (hb8.mono hb7.size)
  generalize hw8 : w7.alloc (.cells #[.int .i64 m0, .int .i64 m1, .int .i64 m2] 23) = w8 at *
  clear hw8
  have r0 := bel_cell hb78 p0
  have t0 := bel_cell hb78 q0
  have r1 := bel_cell hb78 p1
  have t1 := bel_cell hb78 q1
  have HB8 := Lib.hid (HB0.out.trans (hb78.mono HB0.out.size))
  clear hb7 hb8 hb78 KM p0 p1 p2 p3 p4 q0 q1 q2 q3 q4
  cases h1 : (a.car.toList == b.car.toList) with
  | false =>
    have HR2 : Hid (false = mtsB a b) := Lib.hid (by rw [HR.out, h1]; rfl)
    go_wp2
    go_ret
    exact ⟨ret_bool HR2.out, HB8.out⟩
  | true =>
  cases h2 : (a.num == b.num) with
  | false =>
    have HR2 : Hid (false = mtsB a b) := Lib.hid (by rw [HR.out, h1, h2]; rfl)
    go_wp2
    go_ret
    exact ⟨ret_bool HR2.out, HB8.out⟩
  | true =>
    have HR2 : Hid (s = mtsB a b) := Lib.hid (by rw [HR.out, h1, h2]; rfl)
    go_wp2
    go_ret
    exact ⟨ret_bool HR2.out, HB8.out⟩

end Go.Proofs.YtldillnjnjkkgaaGreatDoor

/- Walks of the reference: digits, Decimal (a copy of TextG that stands without the rest of stage 1). -/
namespace Go.Proofs.YtldillnjnjkkgaaGreatDoor
open Go.RowKit
set_option linter.unusedSimpArgs false
set_option linter.unusedVariables false

def tenA : ByteArray := ⟨#[48, 49, 50, 51, 52, 53, 54, 55, 56, 57]⟩
theorem ten_all : ∀ n : Fin 10, (tenA.extract n.val (n.val + 1)).data.toList = [UInt8.ofNat (48 + n.val)] := by decide +kernel
theorem ten_cut (n m : Nat) (h : n < 10) (hm : m = n + 1) : (⟨#[48, 49, 50, 51, 52, 53, 54, 55, 56, 57]⟩ : ByteArray).extract n m = ⟨[UInt8.ofNat (48 + n)].toArray⟩ := by
  subst hm
  exact WideShapes.bytes_inj (ten_all ⟨n, h⟩)

theorem quiet_ex {P : Program} {f : FuncId} {args : Array Value} {w : World} {n : Nat} {v : Value} (h : ∀ W, Calls P f args W fun e w' => e = .returned v ∧ ∃ m, w' = W.drewN m) :
    Calls P f args (w.drewN n) fun e w'' => e = .returned v ∧ ∃ m, w'' = w.drewN m :=
  (h _).mono fun _ _ ⟨he, m, hm⟩ => ⟨he, n + m, by rw [hm, World.drewN_drewN]⟩
theorem dec_len (u : Nat) (h : u ≤ 9223372036854775807) : (⟨(Lib.decDigits u).toArray⟩ : ByteArray).size ≤ 21 := by
  have h1 := Lib.itoa_length_le (u : Int) (by omega) (by omega)
  have h2 : Lib.itoa (u : Int) = Lib.decDigits u := by
    unfold Lib.itoa
    rw [if_neg (by omega)]
    congr 1
  rw [h2] at h1
  simpa [ByteArray.size] using h1
def U64 (n : Nat) : Prop := n < 18446744073709551616
theorem u64_div (n : Nat) (h : U64 n) : IntKind.u64.wrap ((n : Int) / 10) = (n : Int) / 10 := by rw [IntKind.wrap_u64]; unfold U64 at h; omega

set_option maxRecDepth 100000 in
set_option maxHeartbeats 1000000 in
theorem rdigits_any : ∀ (n : Nat) (w : World), U64 n →
    Calls Tryz.prog 138 #[.int .u64 n] w fun e w' => e = .returned (.string ⟨(Lib.decDigits n).toArray⟩) ∧ ∃ k, w' = w.drewN k
  | n, w, hn => by
    by_cases h : n < 10
    · have HD : Hid (Lib.decDigits n = [UInt8.ofNat (48 + n)]) := Lib.hid (decDigits_small n h)
      have b1 : (n : Int) < 10 := by omega
      have HC := Lib.hid (ten_cut n (n + 1) h rfl)
      go_enter Tryz.func138, Tryz.ntmps138
      go_wp2
      go_ret
      exact ⟨by rw [HD.out, ← HC.out]; rfl, 0, rfl⟩
    · have ih : ∀ w, Calls Tryz.prog 138 #[.int .u64 ((n : Int) / 10)] w fun e w' => e = .returned (.string ⟨(Lib.decDigits (n / 10)).toArray⟩) ∧ ∃ k, w' = w.drewN k := by
        intro w
        rw [show ((n : Int) / 10) = ((n / 10 : Nat) : Int) from by omega]
        exact rdigits_any (n / 10) w (by unfold U64 at hn ⊢; omega)
      have HIH := Lib.hid ih
      have e1 := u64_div n hn
      have e2 : ((n : Int)).tmod 10 = (n : Int) % 10 := Int.tmod_eq_emod_of_nonneg (by omega)
      have e3 : IntKind.u64.wrap ((n : Int) % 10 + 1) = (n : Int) % 10 + 1 := by rw [IntKind.wrap_u64]; omega
      have HF : Hid ((⟨(Lib.decDigits (n / 10)).toArray⟩ : ByteArray) ++ (⟨#[48, 49, 50, 51, 52, 53, 54, 55, 56, 57]⟩ : ByteArray).extract ((n : Int) % 10).toNat ((n : Int) % 10 + 1).toNat = ⟨(Lib.decDigits n).toArray⟩) := Lib.hid (by
        rw [ten_cut ((n : Int) % 10).toNat ((n : Int) % 10 + 1).toNat (by omega) (by omega), decDigits_step n (by omega)]
        apply WideShapes.bytes_inj
        rw [show ((n : Int) % 10).toNat = n % 10 from by omega]
        simp)
      have hadd := fun W => run_string_add_sum (P := Tryz.prog) (w := W) (⟨(Lib.decDigits (n / 10)).toArray⟩ : ByteArray) ((⟨#[48, 49, 50, 51, 52, 53, 54, 55, 56, 57]⟩ : ByteArray).extract ((n : Int) % 10).toNat ((n : Int) % 10 + 1).toNat) (by
        have h1 := dec_len (n / 10) (by unfold U64 at hn; omega)
        have h2 : ((⟨#[48, 49, 50, 51, 52, 53, 54, 55, 56, 57]⟩ : ByteArray).extract ((n : Int) % 10).toNat ((n : Int) % 10 + 1).toNat).size ≤ 10 := by
          rw [ByteArray.size_extract]; show min _ 10 - _ ≤ 10; omega
        omega)
      clear ih hn
      have b1 : ¬ (n : Int) < 10 := by omega
      have c1 : (0 : Int) ≤ (n : Int) % 10 := by omega
      have c2 : (n : Int) % 10 < 10 := by omega
      have hsl := fun W => run_slice_string (P := Tryz.prog) W 9 (⟨#[48, 49, 50, 51, 52, 53, 54, 55, 56, 57]⟩ : ByteArray) .u64 .u64 ((n : Int) % 10) ((n : Int) % 10 + 1) Tryz.underlying9 c1 (by omega) (by show (n : Int) % 10 + 1 ≤ 10; omega)
      go_enter Tryz.func138, Tryz.ntmps138
      go_wp2_with (fail)
      go_quiet ((go_at_call 138; exact quiet_ex HIH.out))
      go_wp2
      go_ret
      exact ⟨by rw [← HF.out]; rfl, _, rfl⟩
termination_by n => n
decreasing_by omega

theorem neg_arg (n : Int) (h0 : -9223372036854775808 ≤ n) (hn : n < 0) : IntKind.u64.wrap (IntKind.u64.wrap (wrap64 (-wrap64 (n + 1))) + 1) = (n.natAbs : Int) := by
  have e1 : wrap64 (n + 1) = n + 1 := by unfold wrap64; omega
  have e2 : wrap64 (-(n + 1)) = -(n + 1) := by unfold wrap64; omega
  rw [e1, e2, IntKind.wrap_u64, IntKind.wrap_u64]
  omega
theorem pos_arg (n : Int) (h1 : n ≤ 9223372036854775807) (hn : ¬ n < 0) : IntKind.u64.wrap n = (n.toNat : Int) := by
  rw [IntKind.wrap_u64]
  omega
set_option maxRecDepth 100000 in
set_option maxHeartbeats 1000000 in
theorem rdecimal_any (n : Int) (w : World) (h0 : -9223372036854775808 ≤ n) (h1 : n ≤ 9223372036854775807) :
    Calls Tryz.prog 60 #[.int .i64 n] w fun e w' => e = .returned (.string ⟨(Lib.itoa n).toArray⟩) ∧ ∃ k, w' = w.drewN k := by
  by_cases hn : n < 0
  · have HC : Hid (∀ w, Calls Tryz.prog 138 #[.int .u64 (IntKind.u64.wrap (IntKind.u64.wrap (wrap64 (-wrap64 (n + 1))) + 1))] w fun e w' => e = .returned (.string ⟨(Lib.decDigits n.natAbs).toArray⟩) ∧ ∃ k, w' = w.drewN k) := Lib.hid (by
      intro w; rw [neg_arg n h0 hn]; exact rdigits_any n.natAbs w (by unfold U64; omega))
    have HF : Hid ((⟨#[45]⟩ : ByteArray) ++ (⟨(Lib.decDigits n.natAbs).toArray⟩ : ByteArray) = ⟨(Lib.itoa n).toArray⟩) := Lib.hid (by
      apply WideShapes.bytes_inj
      unfold Lib.itoa
      rw [if_pos hn]
      simp)
    have hlen : (⟨#[45]⟩ : ByteArray).size + (⟨(Lib.decDigits n.natAbs).toArray⟩ : ByteArray).size ≤ 9223372036854775807 := by
      have h2 := Lib.itoa_length_le n h0 h1
      unfold Lib.itoa at h2
      rw [if_pos hn] at h2
      have h3 : (⟨(Lib.decDigits n.natAbs).toArray⟩ : ByteArray).size = (Lib.decDigits n.natAbs).length := by simp [ByteArray.size]
      have h4 : (⟨#[45]⟩ : ByteArray).size = 1 := rfl
      simp only [List.length_cons] at h2
      omega
    have hadd := fun W => run_string_add_sum (P := Tryz.prog) (w := W) (⟨#[45]⟩ : ByteArray) (⟨(Lib.decDigits n.natAbs).toArray⟩ : ByteArray) hlen
    clear h0 h1 hlen
    go_enter Tryz.func60, Tryz.ntmps60
    go_wp2_with (go_at_call 138; refine (HC.out _).mono ?_; rintro e w' ⟨rfl, k, rfl⟩)
    go_ret
    exact ⟨by rw [← HF.out]; rfl, k, rfl⟩
  · have HC : Hid (∀ w, Calls Tryz.prog 138 #[.int .u64 (IntKind.u64.wrap n)] w fun e w' => e = .returned (.string ⟨(Lib.decDigits n.toNat).toArray⟩) ∧ ∃ k, w' = w.drewN k) := Lib.hid (by
      intro w; rw [pos_arg n h1 hn]; exact rdigits_any n.toNat w (by unfold U64; omega))
    have HF : Hid ((⟨(Lib.decDigits n.toNat).toArray⟩ : ByteArray) = ⟨(Lib.itoa n).toArray⟩) := Lib.hid (by
      unfold Lib.itoa
      rw [if_neg hn])
    clear h0 h1
    go_enter Tryz.func60, Tryz.ntmps60
    go_wp2_with (go_at_call 138; refine (HC.out _).mono ?_; rintro e w' ⟨rfl, k, rfl⟩)
    go_ret
    exact ⟨by rw [← HF.out]; rfl, k, rfl⟩
end Go.Proofs.YtldillnjnjkkgaaGreatDoor

/- Walk of the reference's Check of timetables. -/
namespace Go.Proofs.YtldillnjnjkkgaaGreatDoor
open Go.RowKit Go.Shelf Go.Maps
set_option linter.unusedSimpArgs false
set_option linter.unusedVariables false

theorem any_take2 {α : Type} {D : List α} {U : α → Bool} {k : Nat} {d : α} (h : D[k]? = some d) : (D.take (k + 1)).any U = ((D.take k).any U || U d) := by
  obtain ⟨hk, rfl⟩ := List.getElem?_eq_some_iff.1 h
  rw [← List.take_append_getElem hk, List.any_append]
  simp only [List.any_cons, List.any_nil, Bool.or_false]
theorem rdec_small8 (k : Nat) (h : k < 100) (w : World) : Calls Tryz.prog 60 #[.int .i64 (k : Int)] w fun e w' => e = .returned (.string (decA k)) ∧ Below w.heap.size w w' :=
  (rdecimal_any (k : Int) w (by omega) (by omega)).mono (by rintro e w' ⟨rfl, n, rfl⟩; exact ⟨rfl, below_drewN (Below.refl _ _) n⟩)
set_option maxRecDepth 100000 in
set_option maxHeartbeats 8000000 in
theorem rscheck_any (p : PV) (v : Value) (fs : List FV) (w : World) (hL : AirL w p.A p.l) (hv : TblL w v fs) (hlen : fs.length ≤ 90)
    (hpb : ∀ f ∈ fs, (-9223372036854775808 ≤ f.pf ∧ f.pf ≤ 9223372036854775807) ∧ (-9223372036854775808 ≤ f.pt ∧ f.pt ≤ 9223372036854775807) ∧ (-9223372036854775808 ≤ f.pd ∧ f.pd ≤ 9223372036854775807))
    (hok : ∀ f ∈ fs, (chF p.l f).length ≤ 1000 ∧ ∀ x ∈ chF p.l f, x.2.size ≤ 1000)
    (KC : ∀ f ∈ fs, ∀ W, Below w.heap.size w W → Calls Tryz.prog 79 #[encP p, encFl f] W fun e w' => ∃ v, e = .returned v ∧ FOwn W.heap.size w' v (chF p.l f) ∧ Below W.heap.size W w') :
    Calls Tryz.prog 24 #[encP p, v] w fun e w' => ∃ r, e = .returned r ∧ FOwn w.heap.size w' r (schF p.l fs fs.length) ∧ Below w.heap.size w w' := by
  obtain ⟨A, c, rfl, _⟩ := id hv.row
  have hb1 := bel_alloc w (.cells #[.slice p.A p.l.length p.ca, .slice p.D p.ds.length p.cd] placesT)
  have p0 := (cells_new w #[.slice p.A p.l.length p.ca, .slice p.D p.ds.length p.cd] placesT 0).trans (show _ = some (Value.slice p.A p.l.length p.ca) from rfl)
  have p1 := (cells_new w #[.slice p.A p.l.length p.ca, .slice p.D p.ds.length p.cd] placesT 1).trans (show _ = some (Value.slice p.D p.ds.length p.cd) from rfl)
  have hsz1 : (w.alloc (.cells #[.slice p.A p.l.length p.ca, .slice p.D p.ds.length p.cd] placesT)).heap.size = w.heap.size + 1 := by simp
  have HV := Lib.hid (hv.more hb1)
  have HB1 := Lib.hid hb1
  have HOK := Lib.hid hok
  have HPB := Lib.hid hpb
  have HKC := Lib.hid KC
  have HSF := Lib.hid (schF_le p.l fs (fun f hf => (hok f hf).1))
  clear hv hok KC hb1 hpb
  go_enter Tryz.func24, Tryz.ntmps24
  go_upto_region 1 with fail
  generalize hw1 : w.alloc (.cells #[.slice p.A p.l.length p.ca, .slice p.D p.ds.length p.cd] placesT) = w1 at *
  clear hw1
  have HS1 := Lib.hid hsz1
  have F0 := Lib.hid (bel_get p0)
  have F1 := Lib.hid (bel_get p1)
  clear p0 p1 hsz1
  go_wp2
  go_loopw [5, 6] (fun s0 vi wr => ∃ k : Nat, k ≤ fs.length ∧ vi = .int .i64 k ∧ Hid (FOwn w1.heap.size wr s0 (schF p.l fs k) ∧ Below w1.heap.size w1 wr)) (fun _ vi _ => fs.length - (intOf vi).toNat)
  case atStart => exact ⟨0, Nat.zero_le _, rfl, Lib.hid ⟨ROwn.nil (Nat.le_refl _), Below.refl _ _⟩⟩
  case round =>
    obtain ⟨s0, hs0⟩ : ∃ s, s = u5 := ⟨_, rfl⟩
    subst hs0
    obtain ⟨k, hk, rfl, HK⟩ := hrel
    obtain ⟨hO, hbk⟩ := HK.out
    by_cases hlt : k < fs.length
    · obtain ⟨f, hf⟩ : ∃ f, fs[k]? = some f := ⟨_, List.getElem?_eq_getElem hlt⟩
      have hfm := List.mem_of_getElem? hf
      have HF := Lib.hid hf
      have HFM := Lib.hid hfm
      have hvk := HV.out.row.more hbk
      obtain ⟨b, o, e1, hbl, hc⟩ := RowL.at6 hvk hf
      cases e1
      have i2 : (k : Int) < (fs.length : Int) := by omega
      have HSU := Lib.hid (schF_succ p.l fs k f hf)
      have KI := Lib.hid (rdec_small8 k (by omega))
      have hadd : ∀ W : World, (Op.stringOp .add ⟨#[102, 108, 105, 103, 104, 116, 32]⟩ (decA k)).run Tryz.prog W = .ok (.string (fliW ++ decA k)) W := fun W => run_string_add_sum W _ _ (by have := decA_size k (by omega); have e : (⟨#[102, 108, 105, 103, 104, 116, 32]⟩ : ByteArray).size = 7 := rfl; omega)
      obtain ⟨tx, htx⟩ : ∃ t, t = fliW ++ decA k := ⟨_, rfl⟩
      have htz : tx.size ≤ 28 := by
        rw [htx, ByteArray.size_append]
        have := decA_size k (by omega)
        have e : fliW.size = 7 := rfl
        omega
      rw [← htx] at hadd HSU
      clear htx hf hfm HK
      generalize decA k = sk at *
      have HC := Lib.hid hc
      have HVK := Lib.hid hvk
      have HO := Lib.hid hO
      have HBK := Lib.hid hbk
      clear hc hvk hO hbk hbl
      go_upto_region 6 with (go_at_call 60; refine (KI.out _).mono ?_; rintro e w2 ⟨rfl, hbD⟩)
      have hO2 := HO.out.more hbD
      have HB2 := Lib.hid (HBK.out.trans (hbD.mono HBK.out.size))
      have d0 : ∀ W, SW w2 W → W.cell? ⟨b, o + k * 6, none⟩ = some (.string f.car) := fun W h => bel_cell (Below.mono h (Nat.le_refl _)) (bel_cell hbD (HC.out 0 _ rfl))
      have d1 : ∀ W, SW w2 W → W.cell? ⟨b, o + k * 6 + 1, none⟩ = some (.int .i64 f.num) := fun W h => bel_cell (Below.mono h (Nat.le_refl _)) (bel_cell hbD (HC.out 1 _ rfl))
      have d2 : ∀ W, SW w2 W → W.cell? ⟨b, o + k * 6 + 2, none⟩ = some (.int .i64 f.pf) := fun W h => bel_cell (Below.mono h (Nat.le_refl _)) (bel_cell hbD (HC.out 2 _ rfl))
      have d3 : ∀ W, SW w2 W → W.cell? ⟨b, o + k * 6 + 3, none⟩ = some (.int .i64 f.pt) := fun W h => bel_cell (Below.mono h (Nat.le_refl _)) (bel_cell hbD (HC.out 3 _ rfl))
      have d4 : ∀ W, SW w2 W → W.cell? ⟨b, o + k * 6 + 4, none⟩ = some (.int .i64 f.pd) := fun W h => bel_cell (Below.mono h (Nat.le_refl _)) (bel_cell hbD (HC.out 4 _ rfl))
      have d5 : ∀ W, SW w2 W → W.cell? ⟨b, o + k * 6 + 5, none⟩ = some (.slice f.A f.lg.length f.c) := fun W h => bel_cell (Below.mono h (Nat.le_refl _)) (bel_cell hbD (HC.out 5 _ rfl))
      have f0 : ∀ W, SW w2 W → W.cell? ⟨w.heap.size, 0, none⟩ = some (.slice p.A p.l.length p.ca) := fun W h => F0.out W (Below.trans HB2.out (Below.mono h HB2.out.size))
      have f1 : ∀ W, SW w2 W → W.cell? ⟨w.heap.size, 1, none⟩ = some (.slice p.D p.ds.length p.cd) := fun W h => F1.out W (Below.trans HB2.out (Below.mono h HB2.out.size))
      have KC2 : Hid (∀ W, SW w2 W → Calls Tryz.prog 79 #[encP p, encFl f] W fun e w' => ∃ v, e = .returned v ∧ FOwn W.heap.size w' v (chF p.l f) ∧ Below W.heap.size W w') := Lib.hid (fun W h => HKC.out f HFM.out W (HB1.out.trans ((HB2.out.trans (Below.mono h HB2.out.size)).mono HB1.out.size)))
      have hchl := (HOK.out f HFM.out).1
      obtain ⟨C, hC⟩ : ∃ C, C = chF p.l f := ⟨_, rfl⟩
      have HCM : Hid (∀ x ∈ C, x.2.size ≤ 1000) := Lib.hid (by rw [hC]; exact (HOK.out f HFM.out).2)
      rw [← hC] at KC2 HSU hchl
      have HO2 := Lib.hid hO2
      have HVK2 := Lib.hid (HVK.out.more hbD)
      clear hC hbD hO2
      have hS : (SW w2) _ := SW.drew _
      refine wp_region_held_drew (S := SW w2) (by kernel_rfl) hS (fun _ => ?_)
      refine wpAnyH_take (i := 0) (v := ?vR0) rfl (by kernel_rfl) (by kernel_rfl) (by kernel_rfl) (fun _ _ _ h => h) (Or.inl ⟨by rfl, ?hyR0⟩) hS ?restR0
      case hyR0 =>
        intro w hSw
        have k0 := f0 w hSw; have k1 := f1 w hSw
        first | (go_simp; done) | (go_simp; with_reducible rfl)
      try simp only [Act.put, List.setIfInBounds_toArray, List.set_cons_zero, List.set_cons_succ]
      refine wpAnyH_take (i := 1) (v := ?vR1) rfl (by kernel_rfl) (by kernel_rfl) (by kernel_rfl) (fun _ _ _ h => h) (Or.inl ⟨by rfl, ?hyR1⟩) hS ?restR1
      case hyR1 =>
        intro w hSw
        first | (go_simp; done) | (go_simp; with_reducible rfl)
      try simp only [Act.put, List.setIfInBounds_toArray, List.set_cons_zero, List.set_cons_succ]
      refine wpAnyH_take (i := 2) (v := ?vR2) rfl (by kernel_rfl) (by kernel_rfl) (by kernel_rfl) (fun _ _ _ h => h) (Or.inl ⟨by rfl, ?hyR2⟩) hS ?restR2
      case hyR2 =>
        intro w hSw
        first | (go_simp; done) | (go_simp; with_reducible rfl)
      try simp only [Act.put, List.setIfInBounds_toArray, List.set_cons_zero, List.set_cons_succ]
      refine wpAnyH_take (i := 3) (v := ?vR3) rfl (by kernel_rfl) (by kernel_rfl) (by kernel_rfl) (fun _ _ _ h => h) (Or.inl ⟨by rfl, ?hyR3⟩) hS ?restR3
      case hyR3 =>
        intro w hSw
        first | (go_simp; done) | (go_simp; with_reducible rfl)
      try simp only [Act.put, List.setIfInBounds_toArray, List.set_cons_zero, List.set_cons_succ]
      refine wpAnyH_take (i := 4) (v := ?vR4) rfl (by kernel_rfl) (by kernel_rfl) (by kernel_rfl) (fun _ _ _ h => h) (Or.inl ⟨by rfl, ?hyR4⟩) hS ?restR4
      case hyR4 =>
        intro w hSw
        have k0 := d0 w hSw; have k1 := d1 w hSw; have k2 := d2 w hSw; have k3 := d3 w hSw; have k4 := d4 w hSw; have k5 := d5 w hSw
        first | (go_simp; done) | (go_simp; with_reducible rfl)
      try simp only [Act.put, List.setIfInBounds_toArray, List.set_cons_zero, List.set_cons_succ]
      refine wpAnyH_ready (rs := [5]) (by kernel_rfl) (by simp) ?_
      refine AllReadyH.cons rfl (fun K hK => ?_) AllReadyH.nil
      go_simp
      go_wp2_with ((go_at_call 79; refine (KC2.out _ hS).mono ?_; rintro e w9 ⟨v9, rfl, hO9, hb9⟩; have hSz9 := hS.size; have hS : SW w2 w9 := Below.trans hS (Below.mono hb9 hS.size)))
      refine hK.out _ _ hS (fun _ => ?_)
      clear hK K
      refine wpAnyH_take (i := 6) (v := ?vR6) rfl (by kernel_rfl) (by kernel_rfl) (by kernel_rfl) (fun _ _ _ h => h) (Or.inl ⟨by rfl, ?hyR6⟩) hS ?restR6
      case hyR6 =>
        intro w hSw
        first | (go_simp; done) | (go_simp; with_reducible rfl)
      try simp only [Act.put, List.setIfInBounds_toArray, List.set_cons_zero, List.set_cons_succ]
      refine wpAnyH_done (by kernel_rfl) ?_ _
      simp only [List.getElem_toArray, List.getElem_cons_succ, List.getElem_cons_zero, List.set_cons_zero, List.set_cons_succ]
      obtain ⟨A9, c9, rfl, _⟩ := id (hO9.rowL rtF.len)
      have HR9 := Lib.hid (hO9.rowL rtF.len)
      have HB9 : Hid (Below w2.heap.size w2 w9) := Lib.hid hS
      have HO9 := Lib.hid (HO2.out.more hS)
      have HLOW : Hid (∀ b2 o2, A9 = some ⟨b2, o2, none⟩ → C ≠ [] → w2.heap.size ≤ b2) := Lib.hid (fun b2 o2 e hne => by
        obtain ⟨g2, c2, e2, h2, _⟩ := ROwn.formG hO9 hne
        cases e2
        cases e
        exact Nat.le_trans hSz9 h2)
      have hadd1 : ∀ W : World, (Op.stringOp .add tx ⟨#[32]⟩).run Tryz.prog W = .ok (.string (tx ++ spW)) W := fun W => run_string_add_sum W _ _ (by have e : (⟨#[32]⟩ : ByteArray).size = 1 := rfl; omega)
      have HSL : Hid ((schF p.l fs k).length ≤ 100000) := Lib.hid (by have := HSF.out k; omega)
      clear hS hO9 d0 d1 d2 d3 d4 d5 f0 f1 hadd
      go_wp2
      go_loopw [5, 9] (fun s1 vj wq => ∃ j : Nat, j ≤ C.length ∧ vj = .int .i64 j ∧ Hid (FOwn w1.heap.size wq s1 (schF p.l fs k ++ preF tx (C.take j)) ∧ Chg w9 wq s0 s1)) (fun _ vj _ => C.length - (intOf vj).toNat)
      case atStart => exact ⟨0, Nat.zero_le _, rfl, Lib.hid ⟨by simpa [preF] using HO9.out, Chg.refl _ _⟩⟩
      case round =>
        obtain ⟨s1, hs1⟩ : ∃ s, s = u5 := ⟨_, rfl⟩
        subst hs1
        obtain ⟨j, hj, rfl, HJ⟩ := hrel
        obtain ⟨hO, hchg⟩ := HJ.out
        by_cases hltj : j < C.length
        · obtain ⟨x, hx⟩ : ∃ x, C[j]? = some x := ⟨_, List.getElem?_eq_getElem hltj⟩
          have hne : C ≠ [] := by intro h; rw [h] at hltj; simp at hltj
          obtain ⟨b9, o9, rfl, hb9, hc9⟩ := RowL.at0 HR9.out hne
          have hnb9' : s0.ownBlock ≠ some b9 := fun h => by
            have h1 := (HO2.out.low h).2
            have h2 := HLOW.out b9 o9 rfl hne
            omega
          have hnbS : s1.ownBlock ≠ some b9 := fun h => by
            rcases hchg.own _ h with h1 | h1
            · exact hnb9' h1
            · omega
          have x0 := hchg.cell (hc9 j x 0 _ hx rfl) hnb9'
          have x1 := hchg.cell (hc9 j x 1 _ hx rfl) hnb9'
          rw [Nat.add_zero] at x0
          have j2 : (j : Int) < (C.length : Int) := by omega
          have xs := HCM.out x (List.mem_of_getElem? hx)
          have HPT := Lib.hid (preF_take tx C hx)
          have hadd2 : ∀ W : World, (Op.stringOp .add (tx ++ spW) x.2).run Tryz.prog W = .ok (.string ((tx ++ spW) ++ x.2)) W := fun W => run_string_add_sum W _ _ (by rw [ByteArray.size_append]; have e : spW.size = 1 := rfl; omega)
          have HLb : Hid ((schF p.l fs k ++ preF tx (C.take j)).length ≤ 1000000) := Lib.hid (by rw [List.length_append, preF_len, List.length_take]; have := HSL.out; omega)
          have HLb2 : Hid ((schF p.l fs k ++ preF tx (C.take j)).length ≤ 100000000) := Lib.hid (Nat.le_trans HLb.out (by omega))
          obtain ⟨e1, t1⟩ := x
          dsimp only at *
          have X0 : ∀ W, SX wr s1 W → W.cell? ⟨b9, o9 + j * 2, none⟩ = some (.int .i64 e1) := fun W h => SX.cell x0 hnbS h
          have X1 : ∀ W, SX wr s1 W → W.cell? ⟨b9, o9 + j * 2 + 1, none⟩ = some (.string t1) := fun W h => SX.cell x1 hnbS h
          have hO := hO.more (Below.refl _ wr).drew
          have HCG := Lib.hid (hchg.trans (Chg.of_below (Below.refl _ wr).drew))
          clear hx hc9 HJ hchg x0 x1
          go_upto_region 10 with (fail)
          have hS : (SX wr s1) _ := But.of_below (Below.refl _ _).drew
          refine wp_region_held_drew (S := SX wr s1) (by kernel_rfl) hS (fun _ => ?_)
          refine wpAnyH_take (i := 0) (v := ?vX0) rfl (by kernel_rfl) (by kernel_rfl) (by kernel_rfl) (fun _ _ _ h => h) (Or.inl ⟨by rfl, ?hyX0⟩) hS ?restX0
          case hyX0 =>
            intro w hSw
            first | (go_simp; done) | (go_simp; with_reducible rfl)
          try simp only [Act.put, List.setIfInBounds_toArray, List.set_cons_zero, List.set_cons_succ]
          refine wpAnyH_take (i := 1) (v := ?vX1) rfl (by kernel_rfl) (by kernel_rfl) (by kernel_rfl) (fun _ _ _ h => h) (Or.inl ⟨by rfl, ?hyX1⟩) hS ?restX1
          case hyX1 =>
            intro w hSw
            first | (go_simp; done) | (go_simp; with_reducible rfl)
          try simp only [Act.put, List.setIfInBounds_toArray, List.set_cons_zero, List.set_cons_succ]
          refine wpAnyH_take (i := 2) (v := ?vX2) rfl (by kernel_rfl) (by kernel_rfl) (by kernel_rfl) (fun _ _ _ h => h) (Or.inl ⟨by rfl, ?hyX2⟩) hS ?restX2
          case hyX2 =>
            intro w hSw
            first | (go_simp; done) | (go_simp; with_reducible rfl)
          try simp only [Act.put, List.setIfInBounds_toArray, List.set_cons_zero, List.set_cons_succ]
          refine wpAnyH_take (i := 3) (v := ?vX3) rfl (by kernel_rfl) (by kernel_rfl) (by kernel_rfl) (fun _ _ _ h => h) (Or.inl ⟨by rfl, ?hyX3⟩) hS ?restX3
          case hyX3 =>
            intro w hSw
            first | (go_simp; done) | (go_simp; with_reducible rfl)
          try simp only [Act.put, List.setIfInBounds_toArray, List.set_cons_zero, List.set_cons_succ]
          refine wpAnyH_take (i := 4) (v := ?vX4) rfl (by kernel_rfl) (by kernel_rfl) (by kernel_rfl) (fun _ _ _ h => h) (Or.inl ⟨by rfl, ?hyX4⟩) hS ?restX4
          case hyX4 =>
            intro w hSw
            first | (go_simp; done) | (go_simp; with_reducible rfl)
          try simp only [Act.put, List.setIfInBounds_toArray, List.set_cons_zero, List.set_cons_succ]
          refine wpAnyH_take (i := 5) (v := ?vX5) rfl (by kernel_rfl) (by kernel_rfl) (by kernel_rfl) (fun _ _ _ h => h) (Or.inl ⟨by rfl, ?hyX5⟩) hS ?restX5
          case hyX5 =>
            intro w hSw
            have k0 := X0 w hSw
            first | (go_simp; done) | (go_simp; with_reducible rfl)
          try simp only [Act.put, List.setIfInBounds_toArray, List.set_cons_zero, List.set_cons_succ]
          refine wpAnyH_take (i := 6) (v := ?vX6) rfl (by kernel_rfl) (by kernel_rfl) (by kernel_rfl) (fun _ _ _ h => h) (Or.inl ⟨by rfl, ?hyX6⟩) hS ?restX6
          case hyX6 =>
            intro w hSw
            first | (go_simp; done) | (go_simp; with_reducible rfl)
          try simp only [Act.put, List.setIfInBounds_toArray, List.set_cons_zero, List.set_cons_succ]
          refine wpAnyH_take (i := 7) (v := ?vX7) rfl (by kernel_rfl) (by kernel_rfl) (by kernel_rfl) (fun _ _ _ h => h) (Or.inl ⟨by rfl, ?hyX7⟩) hS ?restX7
          case hyX7 =>
            intro w hSw
            have kadd := hadd1 w
            first | (go_simp; done) | (go_simp; with_reducible rfl)
          try simp only [Act.put, List.setIfInBounds_toArray, List.set_cons_zero, List.set_cons_succ]
          refine wpAnyH_take (i := 8) (v := ?vX8) rfl (by kernel_rfl) (by kernel_rfl) (by kernel_rfl) (fun _ _ _ h => h) (Or.inl ⟨by rfl, ?hyX8⟩) hS ?restX8
          case hyX8 =>
            intro w hSw
            first | (go_simp; done) | (go_simp; with_reducible rfl)
          try simp only [Act.put, List.setIfInBounds_toArray, List.set_cons_zero, List.set_cons_succ]
          refine wpAnyH_take (i := 9) (v := ?vX9) rfl (by kernel_rfl) (by kernel_rfl) (by kernel_rfl) (fun _ _ _ h => h) (Or.inl ⟨by rfl, ?hyX9⟩) hS ?restX9
          case hyX9 =>
            intro w hSw
            first | (go_simp; done) | (go_simp; with_reducible rfl)
          try simp only [Act.put, List.setIfInBounds_toArray, List.set_cons_zero, List.set_cons_succ]
          refine wpAnyH_take (i := 10) (v := ?vX10) rfl (by kernel_rfl) (by kernel_rfl) (by kernel_rfl) (fun _ _ _ h => h) (Or.inl ⟨by rfl, ?hyX10⟩) hS ?restX10
          case hyX10 =>
            intro w hSw
            first | (go_simp; done) | (go_simp; with_reducible rfl)
          try simp only [Act.put, List.setIfInBounds_toArray, List.set_cons_zero, List.set_cons_succ]
          refine wpAnyH_take (i := 11) (v := ?vX11) rfl (by kernel_rfl) (by kernel_rfl) (by kernel_rfl) (fun _ _ _ h => h) (Or.inl ⟨by rfl, ?hyX11⟩) hS ?restX11
          case hyX11 =>
            intro w hSw
            first | (go_simp; done) | (go_simp; with_reducible rfl)
          try simp only [Act.put, List.setIfInBounds_toArray, List.set_cons_zero, List.set_cons_succ]
          refine wpAnyH_take (i := 12) (v := ?vX12) rfl (by kernel_rfl) (by kernel_rfl) (by kernel_rfl) (fun _ _ _ h => h) (Or.inl ⟨by rfl, ?hyX12⟩) hS ?restX12
          case hyX12 =>
            intro w hSw
            have k0 := X1 w hSw
            first | (go_simp; done) | (go_simp; with_reducible rfl)
          try simp only [Act.put, List.setIfInBounds_toArray, List.set_cons_zero, List.set_cons_succ]
          refine wpAnyH_take (i := 13) (v := ?vX13) rfl (by kernel_rfl) (by kernel_rfl) (by kernel_rfl) (fun _ _ _ h => h) (Or.inl ⟨by rfl, ?hyX13⟩) hS ?restX13
          case hyX13 =>
            intro w hSw
            have kadd := hadd2 w
            first | (go_simp; done) | (go_simp; with_reducible rfl)
          try simp only [Act.put, List.setIfInBounds_toArray, List.set_cons_zero, List.set_cons_succ]
          refine wpAnyH_take (i := 14) (v := ?vX14) rfl (by kernel_rfl) (by kernel_rfl) (by kernel_rfl) (fun _ _ _ h => h) (Or.inl ⟨by rfl, ?hyX14⟩) hS ?restX14
          case hyX14 =>
            intro w hSw
            first | (go_simp; done) | (go_simp; with_reducible rfl)
          try simp only [Act.put, List.setIfInBounds_toArray, List.set_cons_zero, List.set_cons_succ]
          refine wpAnyH_ready (rs := [15]) (by kernel_rfl) (by simp) ?_
          refine AllReadyH.cons rfl (fun K hK => ?_) AllReadyH.nil
          go_simp
          have hSp := hS
          have hS := hS.on (bel_alloc _ (.cells #[.int .i64 e1, .string ((tx ++ spW) ++ t1)] fltT))
          refine hK.out _ _ hS (fun _ => ?_)
          clear hK K
          refine wpAnyH_ready (rs := [16]) (by kernel_rfl) (by simp) ?_
          refine AllReadyH.cons rfl (fun K hK => ?_) AllReadyH.nil
          refine step_rapp rtF rfl _ _ rfl hO rfl (bel_alloc _ _) _ (e1, (tx ++ spW) ++ t1) _ rfl (cs := #[.int .i64 e1, .string ((tx ++ spW) ++ t1)]) rfl (heap_alloc_new _ _) HLb2.out ?_
          intro v8 w8 hO8 hC8
          go_simp
          have hS := hSp.trans hC8.but (fun _ _ h => h)
          refine hK.out _ _ hS (fun _ => ?_)
          clear hK K
          refine wpAnyH_take (i := 17) (v := ?vX17) rfl (by kernel_rfl) (by kernel_rfl) (by kernel_rfl) (fun _ _ _ h => h) (Or.inl ⟨by rfl, ?hyX17⟩) hS ?restX17
          case hyX17 =>
            intro w hSw
            first | (go_simp; done) | (go_simp; with_reducible rfl)
          try simp only [Act.put, List.setIfInBounds_toArray, List.set_cons_zero, List.set_cons_succ]
          refine wpAnyH_done (by kernel_rfl) ?_ _
          simp only [List.getElem_toArray, List.getElem_cons_succ, List.getElem_cons_zero, List.set_cons_zero, List.set_cons_succ]
          have HY : Hid (FOwn w1.heap.size w8 v8 (schF p.l fs k ++ preF tx (C.take (j + 1))) ∧ Chg w9 w8 s0 v8) := Lib.hid ⟨by rw [HPT.out, ← List.append_assoc]; exact hO8, HCG.out.trans hC8⟩
          clear hO8 hC8 hS hSp hO
          go_wp2
          go_roundw
          case rel => exact ⟨j + 1, by omega, by go_num, HY⟩
          case measure => simp [intOf]; omega
        · have hj' : j = C.length := by omega
          have j2 : ¬ (j : Int) < (C.length : Int) := by omega
          rw [hj', List.take_length] at hO
          have HOq := Lib.hid hO
          have HBq : Hid (Below w1.heap.size w1 wr) := Lib.hid (HB2.out.trans ((HB9.out.mono HB2.out.size).trans (hchg.below HO9.out)))
          have HVq : Hid (RowL 6 encF6 wr (.slice (some ⟨b, o, none⟩) fs.length c) fs) := Lib.hid (HV.out.row.more HBq.out)
          clear hO hchg HJ hj'
          go_wp2
          obtain ⟨wz, hwz⟩ : ∃ x, x = wr := ⟨_, rfl⟩
          subst hwz
          go_loopw [10, 11] (fun v0 vm wq => ∃ m : Nat, m ≤ k ∧ vm = .int .i64 m ∧ v0 = .bool ((fs.take m).any (fun g => mtsB g f)) ∧ SW wz wq) (fun _ vm _ => k - (intOf vm).toNat)
          case atStart => exact ⟨0, Nat.zero_le _, rfl, rfl, Below.refl _ _⟩
          case round =>
            obtain ⟨m, hm, rfl, rfl, hSm⟩ := hrel
            have HSm := Lib.hid hSm
            by_cases hltm : m < k
            · obtain ⟨g, hg⟩ : ∃ g, fs[m]? = some g := ⟨_, List.getElem?_eq_getElem (by omega)⟩
              have hm2 : (m : Int) < (k : Int) := by omega
              have hm3 : (m : Int) < (fs.length : Int) := by omega
              obtain ⟨bg, og, eg, _, hcg⟩ := RowL.at6 (HVq.out.more hSm) hg
              cases eg
              obtain ⟨bf, of_, ef, _, hcf⟩ := RowL.at6 (HVq.out.more hSm) HF.out
              cases ef
              have g0 := hcg 0 _ rfl
              have f0 := hcf 0 _ rfl
              have g1 := hcg 1 _ rfl
              have f1 := hcf 1 _ rfl
              have g2 := hcg 2 _ rfl
              have f2 := hcf 2 _ rfl
              have g3 := hcg 3 _ rfl
              have f3 := hcf 3 _ rfl
              have g4 := hcg 4 _ rfl
              have f4 := hcf 4 _ rfl
              have g5 := hcg 5 _ rfl
              have f5 := hcf 5 _ rfl
              rw [Nat.add_zero] at g0 f0
              have g0 := SW.cell g0
              have f0 := SW.cell f0
              have g1 := SW.cell g1
              have f1 := SW.cell f1
              have g2 := SW.cell g2
              have f2 := SW.cell f2
              have g3 := SW.cell g3
              have f3 := SW.cell f3
              have g4 := SW.cell g4
              have f4 := SW.cell f4
              have g5 := SW.cell g5
              have f5 := SW.cell f5
              have KM : Hid (∀ W, SW wr W → Calls Tryz.prog 80 #[encFl g, encFl f] W fun e w' => e = .returned (.bool (mtsB g f)) ∧ SW wr w') := Lib.hid (fun W h => (rmeets_any g f W (HPB.out g (List.mem_of_getElem? hg))).mono (by rintro e w' ⟨rfl, hb⟩; exact ⟨rfl, Below.trans h (Below.mono hb h.size)⟩))
              have HAN := Lib.hid (any_take2 (U := fun g => mtsB g f) hg)
              obtain ⟨tm, htm⟩ : ∃ t, t = mtsB g f := ⟨_, rfl⟩
              rw [← htm] at KM HAN
              clear hg hcg hcf htm hSm
              cases hA : (fs.take m).any (fun g => mtsB g f)
              all_goals
                rw [hA] at HAN
                clear hA
                go_wp2
                have hNe : Nonempty (Wd (SW wr)) := ⟨⟨_, SW.drew _⟩⟩
                refine quietS (S := SW wr) (by kernel_rfl) (by kernel_rfl) (SW.drew _) ?_
                repeat (first | go_big_quiet_skip | (go_big_quiet_want; go_big_quiet_op; first | go_big_quiet_on | go_big_quiet_call ((go_at_call 80; exact quiet_S (KM.out _ (Wd.ok _))))))
                refine wpQuiet_nil ?_
                rintro W ⟨⟨_, hW⟩, rfl⟩
                go_wp2
                go_roundw
                case rel => exact ⟨m + 1, by omega, by go_num, by rw [HAN.out]; first | rfl | simp, Below.trans HSm.out (Below.mono hW HSm.out.size)⟩
                case measure => simp [intOf]; omega
            · have hm' : m = k := by omega
              have hm2 : ¬ (m : Int) < (k : Int) := by omega
              have hO := HOq.out.more hSm
              have hB := HBq.out.trans (hSm.mono HBq.out.size)
              have HLc : Hid ((schF p.l fs k ++ preF tx C).length ≤ 100000000) := Lib.hid (by rw [List.length_append, preF_len]; have := HSL.out; omega)
              have HTB : Hid ((fs.take m).any (fun g => mtsB g f) = twcB (fs.take k) f) := Lib.hid (by rw [hm', twc_iff])
              obtain ⟨tb, htb⟩ : ∃ t, t = (fs.take m).any (fun g => mtsB g f) := ⟨_, rfl⟩
              rw [← htb] at HTB ⊢
              have HO3 := Lib.hid hO
              have HB3 := Lib.hid hB
              clear htb hO hB hSm hm'
              cases tb with
              | false =>
                have HSU2 : Hid (schF p.l fs (k + 1) = schF p.l fs k ++ preF tx C) := Lib.hid (by rw [HSU.out, ← HTB.out]; show _ ++ (_ ++ pick tx [0]) = _; rw [pick_zero, List.append_nil])
                go_wp2
                go_roundw
                case rel => exact ⟨k + 1, by omega, by go_num, Lib.hid ⟨by rw [HSU2.out]; exact HO3.out, HB3.out⟩⟩
                case measure => simp [intOf]; omega
              | true =>
                have HSU2 : Hid (schF p.l fs (k + 1) = (schF p.l fs k ++ preF tx C) ++ [(6, tx)]) := Lib.hid (by rw [HSU.out, ← HTB.out]; show _ ++ (_ ++ pick tx [6]) = _; rw [pick_one _ _ (by omega), List.append_assoc])
                go_wp2_with (at_builtin; refine wpList_rapp rtF rfl _ _ rfl HO3.out rfl (bel_alloc _ _) _ (6, tx) _ rfl (cs := #[.int .i64 6, .string tx]) rfl (heap_alloc_new _ _) HLc.out ?_; intro v8 w8 hO8 hC8)
                go_roundw
                case rel => exact ⟨k + 1, by omega, by go_num, Lib.hid ⟨by rw [HSU2.out]; exact hO8, HB3.out.trans (hC8.below HO3.out)⟩⟩
                case measure => simp [intOf]; omega
    · have hk' : k = fs.length := by omega
      have i2 : ¬ (k : Int) < (fs.length : Int) := by omega
      rw [hk'] at hO
      clear hk'
      go_wp2
      go_ret
      exact ⟨_, rfl, ⟨hO.own.mono (by have := HS1.out; omega), Nat.le_trans (by have := HS1.out; omega) hO.base⟩, HB1.out.trans (hbk.mono HB1.out.size)⟩

end Go.Proofs.YtldillnjnjkkgaaGreatDoor

/- Walks of the reference's Find and town. -/
namespace Go.Proofs.YtldillnjnjkkgaaGreatDoor
open Go.RowKit Go.Shelf
set_option linter.unusedSimpArgs false
set_option linter.unusedVariables false

theorem find_at {q : Air → Bool} {l : List Air} {k : Nat} {a : Air} (h : (l.take k).find? q = none) (hk : l[k]? = some a) : (q a = true → l.find? q = some a) ∧ (q a = false → (l.take (k + 1)).find? q = none) := by
  obtain ⟨hlt, rfl⟩ := List.getElem?_eq_some_iff.1 hk
  constructor
  · intro hp
    have e : l.take k ++ l.drop k = l := List.take_append_drop k l
    rw [List.drop_eq_getElem_cons hlt] at e
    have e2 : (l.take k ++ l[k] :: l.drop (k + 1)).find? q = some l[k] := by rw [List.find?_append, h, List.find?_cons, hp]; rfl
    rwa [e] at e2
  · intro hp
    rw [List.take_add_one, hk, List.find?_append, h]
    simp [hp]

set_option maxRecDepth 100000 in
set_option maxHeartbeats 4000000 in
theorem rfind_any (p : PV) (s : ByteArray) (w : World) (hl : p.l.length ≤ 40) (hL : AirL w p.A p.l) :
    Calls Tryz.prog 159 #[encP p, .string s] w fun e w' => e = .returned (.tuple #[encA ((findC p.l s).getD airZ), .bool (findC p.l s).isSome]) ∧ Below w.heap.size w w' := by
  obtain ⟨A, ca, l, D, cd, ds⟩ := p
  dsimp only at *
  have hb1 := bel_alloc w (.cells #[.slice A l.length ca, .slice D ds.length cd] placesT)
  have hb0 : Below w.heap.size w ((w.alloc (.cells #[.slice A l.length ca, .slice D ds.length cd] placesT)).alloc (.cells #[.string noB, .string noB, .string noB, .int .i64 0, .slice none 0 0] airT)) := hb1.alloc hb1.size _
  have hb2 := bel_alloc (w.alloc (.cells #[.slice A l.length ca, .slice D ds.length cd] placesT)) (.cells #[.string noB, .string noB, .string noB, .int .i64 0, .slice none 0 0] airT)
  have p0 := bel_cell hb2 ((cells_new w #[.slice A l.length ca, .slice D ds.length cd] placesT 0).trans (show _ = some _ from rfl))
  have p1 := bel_cell hb2 ((cells_new w #[.slice A l.length ca, .slice D ds.length cd] placesT 1).trans (show _ = some _ from rfl))
  have hN := heap_alloc_new (w.alloc (.cells #[.slice A l.length ca, .slice D ds.length cd] placesT)) (.cells #[.string noB, .string noB, .string noB, .int .i64 0, .slice none 0 0] airT)
  simp only [World.size_alloc] at hN
  have hL5 := hL.more hb0
  go_enter Tryz.func159, Tryz.ntmps159
  generalize hw5 : (w.alloc (.cells #[.slice A l.length ca, .slice D ds.length cd] placesT)).alloc (.cells #[.string noB, .string noB, .string noB, .int .i64 0, .slice none 0 0] airT) = w5 at *
  have hNl : w.heap.size + 1 < w5.heap.size := (Array.getElem?_eq_some_iff.1 hN).1
  have n0 := (cell_of_row w5 _ 0 _ _ (0, 0) hN).trans (show _ = some _ from rfl)
  have n1 := (cell_of_row w5 _ 1 _ _ (0, 0) hN).trans (show _ = some _ from rfl)
  have n2 := (cell_of_row w5 _ 2 _ _ (0, 0) hN).trans (show _ = some _ from rfl)
  have n3 := (cell_of_row w5 _ 3 _ _ (0, 0) hN).trans (show _ = some _ from rfl)
  have n4 := (cell_of_row w5 _ 4 _ _ (0, 0) hN).trans (show _ = some _ from rfl)
  have z0 := frozen_of_row w5 _ 0 _ _ hN
  have z1 := frozen_of_row w5 _ 1 _ _ hN
  have z2 := frozen_of_row w5 _ 2 _ _ hN
  have z3 := frozen_of_row w5 _ 3 _ _ hN
  have z4 := frozen_of_row w5 _ 4 _ _ hN
  have HN := Lib.hid hN
  have HB := Lib.hid hb0
  clear hb1 hb2 hN hb0 hL
  go_wp2
  go_loop [6] (fun vi => ∃ k : Nat, k ≤ l.length ∧ vi = .int .i64 k ∧ Hid ((l.take k).find? (fun a => eqS a.code s) = none)) (fun vi => l.length - (intOf vi).toNat)
  case atStart => exact ⟨0, Nat.zero_le _, rfl, Lib.hid rfl⟩
  case round =>
    obtain ⟨k, hk, rfl, HK⟩ := hrel
    by_cases hlt : k < l.length
    · obtain ⟨b, o, a, rfl, hgl, hka, ha⟩ := hL5.at hlt
      have i2 : (k : Int) < (l.length : Int) := by omega
      obtain ⟨a0, a1, a2, a3, a4, ash⟩ := ha
      have hf := Lib.hid (find_at HK.out hka)
      cases he : (a.code.toList == s.toList)
      · have HX := Lib.hid (hf.out.2 he)
        clear hka ash
        go_wp2
        go_round
        case rel => exact ⟨k + 1, by omega, by go_num, HX⟩
        case measure => simp [intOf]; omega
      · have HR : Hid (findC l s = some a) := Lib.hid (hf.out.1 he)
        clear hka ash hL5
        go_wp2
        have hx := S5.heap HN.out (.string a.code) (.string a.city) (.string a.land) (.int .i64 a.off) (.slice a.A a.shs.length a.c)
        have hbt := S5.but w5 (w.heap.size + 1) (.string a.code) (.string a.city) (.string a.land) (.int .i64 a.off) (.slice a.A a.shs.length a.c)
        have c0 := (cell_of_row _ _ 0 _ _ (0, 0) hx).trans (show _ = some _ from rfl)
        have c1 := (cell_of_row _ _ 1 _ _ (0, 0) hx).trans (show _ = some _ from rfl)
        have c2 := (cell_of_row _ _ 2 _ _ (0, 0) hx).trans (show _ = some _ from rfl)
        have c3 := (cell_of_row _ _ 3 _ _ (0, 0) hx).trans (show _ = some _ from rfl)
        have c4 := (cell_of_row _ _ 4 _ _ (0, 0) hx).trans (show _ = some _ from rfl)
        have hbw : Below w.heap.size w (S5 w5 (w.heap.size + 1) (.string a.code) (.string a.city) (.string a.land) (.int .i64 a.off) (.slice a.A a.shs.length a.c)) := HB.out.trans (hbt.below HB.out.size (fun k hk => by omega))
        refine bodyPost_ret (v := .tuple #[encA a, .bool true]) ?_ rfl ⟨by rw [HR.out]; rfl, hbw⟩
        change (results _ _).run Tryz.prog (S5 w5 (w.heap.size + 1) (.string a.code) (.string a.city) (.string a.land) (.int .i64 a.off) (.slice a.A a.shs.length a.c)) = .ok _ (S5 w5 (w.heap.size + 1) (.string a.code) (.string a.city) (.string a.land) (.int .i64 a.off) (.slice a.A a.shs.length a.c))
        generalize S5 w5 (w.heap.size + 1) (.string a.code) (.string a.city) (.string a.land) (.int .i64 a.off) (.slice a.A a.shs.length a.c) = W at c0 c1 c2 c3 c4 ⊢
        simp [results, Tryz.results159, go_sem, c0, c1, c2, c3, c4]
    · have HR : Hid (findC l s = none) := Lib.hid (by have h := HK.out; rwa [List.take_of_length_le (by omega)] at h)
      clear hL5
      go_wp2
      have hx := S5.heap HN.out (.string noB) (.string noB) (.string noB) (.int .i64 0) (.slice none 0 0)
      have hbt := S5.but w5 (w.heap.size + 1) (.string noB) (.string noB) (.string noB) (.int .i64 0) (.slice none 0 0)
      have c0 := (cell_of_row _ _ 0 _ _ (0, 0) hx).trans (show _ = some _ from rfl)
      have c1 := (cell_of_row _ _ 1 _ _ (0, 0) hx).trans (show _ = some _ from rfl)
      have c2 := (cell_of_row _ _ 2 _ _ (0, 0) hx).trans (show _ = some _ from rfl)
      have c3 := (cell_of_row _ _ 3 _ _ (0, 0) hx).trans (show _ = some _ from rfl)
      have c4 := (cell_of_row _ _ 4 _ _ (0, 0) hx).trans (show _ = some _ from rfl)
      have hbw : Below w.heap.size w (S5 w5 (w.heap.size + 1) (.string noB) (.string noB) (.string noB) (.int .i64 0) (.slice none 0 0)) := HB.out.trans (hbt.below HB.out.size (fun k hk => by omega))
      refine bodyPost_ret (v := .tuple #[encA airZ, .bool false]) ?_ rfl ⟨by rw [HR.out]; rfl, hbw⟩
      change (results _ _).run Tryz.prog (S5 w5 (w.heap.size + 1) (.string noB) (.string noB) (.string noB) (.int .i64 0) (.slice none 0 0)) = .ok _ (S5 w5 (w.heap.size + 1) (.string noB) (.string noB) (.string noB) (.int .i64 0) (.slice none 0 0))
      generalize S5 w5 (w.heap.size + 1) (.string noB) (.string noB) (.string noB) (.int .i64 0) (.slice none 0 0) = W at c0 c1 c2 c3 c4 ⊢
      simp [results, Tryz.results159, go_sem, c0, c1, c2, c3, c4, airZ]

end Go.Proofs.YtldillnjnjkkgaaGreatDoor

/- Walk of the reference's City. -/
namespace Go.Proofs.YtldillnjnjkkgaaGreatDoor
open Go.RowKit Go.Shelf
set_option linter.unusedSimpArgs false
set_option linter.unusedVariables false

end Go.Proofs.YtldillnjnjkkgaaGreatDoor

/- Walk of the reference's Country. -/
namespace Go.Proofs.YtldillnjnjkkgaaGreatDoor
open Go.RowKit Go.Shelf
set_option linter.unusedSimpArgs false
set_option linter.unusedVariables false

end Go.Proofs.YtldillnjnjkkgaaGreatDoor

/- Walk of the reference's airport. -/
namespace Go.Proofs.YtldillnjnjkkgaaGreatDoor
open Go.RowKit Go.Shelf
set_option linter.unusedSimpArgs false
set_option linter.unusedVariables false

abbrev errnT : TypeId := 33
def encE (x : Int) : List Value := [.int .i64 x]
theorem rtE : RT Tryz.prog 158 errnT 1 encE where
  ht := Tryz.underlying158
  info := ⟨.int .i64 0, 8, by kernel_rfl, rfl, by omega⟩
  len x := rfl
  one x u hu := by simp [encE] at hu; subst hu; rfl
  pos := by omega
abbrev EOwn (B : Nat) (w : World) (v : Value) (l : List Int) : Prop := ROwn errnT 1 encE B w v l
theorem rairp_any (s : ByteArray) (w : World) (hs : s.size ≤ maxLen) : Calls Tryz.prog 62 #[.string s] w fun e w' => e = .returned (.bool (capsB s 3)) ∧ w = w' := by
  go_enter Tryz.func62, Tryz.ntmps62
  go_wp2_with (go_at_call 140; refine (letters_any _ _ _ hs).mono ?_; rintro e w' ⟨rfl, rfl⟩)
  go_ret
  exact ⟨rfl, rfl⟩
theorem rland_any (s : ByteArray) (w : World) (hs : s.size ≤ maxLen) : Calls Tryz.prog 212 #[.string s] w fun e w' => e = .returned (.bool (capsB s 2)) ∧ w = w' := by
  go_enter Tryz.func212, Tryz.ntmps212
  go_wp2_with (go_at_call 140; refine (letters_any _ _ _ hs).mono ?_; rintro e w' ⟨rfl, rfl⟩)
  go_ret
  exact ⟨rfl, rfl⟩
theorem okE_app (a b : List Int) : okE (a ++ b) = okE a ++ okE b := by simp [okE]
theorem okE_one (e : Int) (h : e ≠ 0) : okE [e] = [e] := by simp [okE, h]
theorem any_take {α : Type} (q : α → Bool) (l : List α) (k : Nat) (a : α) (h : l[k]? = some a) : (l.take (k + 1)).any q = ((l.take k).any q || q a) := by
  rw [List.take_add_one, h, List.any_append]
  simp
theorem eqB (a b : ByteArray) : (a.toList == b.toList) = decide (a = b) := by
  by_cases h : a = b
  · subst h; simp
  · rw [decide_eq_false h]
    cases hh : (a.toList == b.toList) with
    | false => rfl
    | true => exact absurd ((eqS_iff a b).1 hh) h

end Go.Proofs.YtldillnjnjkkgaaGreatDoor

/- Walk of the reference's distance. -/
namespace Go.Proofs.YtldillnjnjkkgaaGreatDoor
open Go.RowKit Go.Shelf
set_option linter.unusedSimpArgs false
set_option linter.unusedVariables false

theorem town_any (l : List Air) (s : ByteArray) : (findT l s).isSome = l.any fun b => decide (b.city = s) := by
  have e : (fun b : Air => decide (b.city = s)) = fun b => eqS b.city s := by
    funext b
    unfold eqS
    rw [eqB]
  rw [e]
  unfold findT
  rw [Bool.eq_iff_iff, List.find?_isSome, List.any_eq_true]

end Go.Proofs.YtldillnjnjkkgaaGreatDoor

/- Walk of the reference's Check of places. -/
namespace Go.Proofs.YtldillnjnjkkgaaGreatDoor
open Go.RowKit Go.Shelf
set_option linter.unusedSimpArgs false
set_option linter.unusedVariables false

theorem rdec_small (k : Nat) (h : k < 100) (w : World) : Calls Tryz.prog 60 #[.int .i64 (k : Int)] w fun e w' => e = .returned (.string (decA k)) ∧ Below w.heap.size w w' :=
  (rdecimal_any (k : Int) w (by omega) (by omega)).mono (by rintro e w' ⟨rfl, n, rfl⟩; exact ⟨rfl, below_drewN (Below.refl _ _) n⟩)
def tag (s : ByteArray) (es : List Int) : List Flt := es.map fun e => (e, s)
theorem tag_succ (s : ByteArray) (es : List Int) (k : Nat) (h : k < es.length) : tag s (es.take (k + 1)) = tag s (es.take k) ++ [(es[k], s)] := by
  unfold tag
  rw [← List.take_append_getElem h, List.map_append]
  rfl
theorem okE_le (es : List Int) : (okE es).length ≤ es.length := List.length_filter_le _ _
theorem airE_len (l : List Air) (a : Air) : (airE l a).length = 4 := rfl
theorem dstE_len (l : List Air) (L : List Dst) (d : Dst) : (dstE l L d).length = 3 := rfl

end Go.Proofs.YtldillnjnjkkgaaGreatDoor
