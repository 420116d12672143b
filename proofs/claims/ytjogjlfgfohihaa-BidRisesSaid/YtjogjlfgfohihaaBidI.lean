/- The law BidSeats. -/
import Derived.Test.YtjogjlfgfohihaaBidG
import Derived.Deep.LoopGhost
import Derived.BigQuiet
import Derived.Deep.CutRange
import Derived.Deep.CutBlock
namespace Go.Proofs.Ytjogjlfgfohihaa
open Go.RowKit Go.Shelf
set_option linter.unusedSimpArgs false
set_option linter.unusedVariables false

theorem se_step {cv : List (List Int)} {lf : List Int} {value most : Int} (hl : cv.length = lf.length) (h0 : 0 < lf.length) : ∀ (f n : Nat), SeatsK cv lf value most n → n + f = moF most → ∃ r, SeatsR cv lf value most r
  | 0, n, h, hf => ⟨n, h.stop hl h0 (.inl (by omega))⟩
  | f + 1, n, h, hf => by
    by_cases hg : GdP cv lf value n
    · have h4 := moF_min most
      exact se_step hl h0 f (n + 1) (h.next (by split at h4 <;> omega) (by split at h4 <;> omega) hg) (by omega)
    · exact ⟨n, h.stop hl h0 (.inr hg)⟩
theorem se_ex (cv : List (List Int)) (lf : List Int) (value most : Int) : ∃ r, SeatsR cv lf value most r := by
  by_cases h : cv.length ≠ lf.length ∨ lf.length = 0
  · exact ⟨0, by unfold SeatsR; rw [if_pos h]⟩
  · exact se_step (by omega) (by omega) (moF most) 0 (SeatsK.zero _ _ _ _) (by omega)
noncomputable def seN (cv : List (List Int)) (lf : List Int) (value most : Int) : Nat := Classical.choose (se_ex cv lf value most)
theorem seN_ok (cv : List (List Int)) (lf : List Int) (value most : Int) : SeatsR cv lf value most (seN cv lf value most) := Classical.choose_spec (se_ex cv lf value most)
theorem seN_in (cv : List (List Int)) (lf : List Int) (value most : Int) : seN cv lf value most ≤ moF most := by
  have h := seN_ok cv lf value most
  unfold SeatsR at h
  split at h
  · omega
  · exact h.1
theorem moF_le (most : Int) : moF most ≤ 999 := by unfold moF; split <;> omega
theorem seats_n (A : Option Addr) (c : Nat) (L : List Cv) (B : Option Addr) (e : Nat) (lf : List Int) (value most : Int) (w : World) (hL : CvsL w (.slice A L.length c) L) (hM : IntR w (.slice B lf.length e) lf) (hok : OkCs L lf) (hl : lf.length < 9223372036854775808) :
    Calls Try.prog 19 #[.slice A L.length c, .slice B lf.length e, .int .i64 value, .int .i64 most] w fun e w' => e = .returned (.int .i64 (seN (pls L) lf value most : Int)) ∧ Below w.heap.size w w' :=
  (seats_any A c L B e lf value most w hL hM hok hl).mono (by
    rintro e w' ⟨r, rfl, hr, hb⟩
    rw [hr.uniq (seN_ok (pls L) lf value most)]
    exact ⟨rfl, hb⟩)
theorem rseats_n (A : Option Addr) (c : Nat) (L : List Cv) (B : Option Addr) (e : Nat) (lf : List Int) (value most : Int) (w : World) (hL : CvsL w (.slice A L.length c) L) (hM : IntR w (.slice B lf.length e) lf) (hok : OkCs L lf) (hl : lf.length < 9223372036854775808) :
    Calls Try.prog 20 #[.slice A L.length c, .slice B lf.length e, .int .i64 value, .int .i64 most] w fun e w' => e = .returned (.int .i64 (seN (pls L) lf value most : Int)) ∧ Below w.heap.size w w' :=
  (rseats_any A c L B e lf value most w hL hM hok hl).mono (by
    rintro e w' ⟨r, rfl, hr, hb⟩
    rw [hr.uniq (seN_ok (pls L) lf value most)]
    exact ⟨rfl, hb⟩)
set_option maxRecDepth 100000 in
set_option maxHeartbeats 8000000 in
theorem bidSeats_walk (A : Option Addr) (c : Nat) (L : List Cv) (B : Option Addr) (e : Nat) (lf : List Int) (value most : Int) (w : World) (hL : CvsL w (.slice A L.length c) L) (hM : IntR w (.slice B lf.length e) lf) (hi : ∀ x ∈ lf, -9223372036854775808 ≤ x ∧ x ≤ 9223372036854775807)
    (hl : L.length < 9223372036854775808) (hx : ∀ x ∈ L, x.l.length < 9223372036854775808) (hll : lf.length < 9223372036854775808) :
    Calls Try.prog 5 #[.agg #[.slice A L.length c, .slice B lf.length e], .int .i64 value, .int .i64 most] w fun e w' => e = .returned (.bool true) ∧ Below w.heap.size w w' := by
  have KA := Lib.hid knows_any
  have hbA := bel_alloc w (.cells #[.slice A L.length c, .slice B lf.length e] 35)
  obtain ⟨y0, y1⟩ := box_cells w (.slice A L.length c) (.slice B lf.length e) 35
  have KE := Lib.hid (exp_any A c L (.slice B lf.length e) _ (hL.more hbA) hl hx)
  cases hE : expB L with
  | false =>
    rw [hE] at KE
    have HBA := Lib.hid hbA
    clear hL hM hE hbA
    go_enter Try.func5, Try.ntmps5
    go_wp2_with (first
      | (go_at_call 18; with_reducible refine KE.out.mono ?_; rintro e w1 ⟨rfl, hS1⟩)
      | (go_at_call 8; with_reducible refine (KA.out _).mono ?_; rintro e wd ⟨rfl, hbd⟩))
    go_ret
    exact ⟨rfl, HBA.out.trans ((hS1.trans (hbd.mono hS1.size)).mono HBA.out.size)⟩
  | true =>
    rw [hE] at KE
    obtain ⟨h1, h2⟩ := expB_yes hE
    have hok : OkCs L lf := ⟨h1, by omega, hi⟩
    have HSE : Hid (∀ W, SW w W → Calls Try.prog 19 #[.slice A L.length c, .slice B lf.length e, .int .i64 value, .int .i64 most] W fun e w' => e = .returned (.int .i64 (seN (pls L) lf value most : Int)) ∧ Below W.heap.size W w') := Lib.hid (fun W h => seats_n A c L B e lf value most W (hL.more h) (hM.more h) hok hll)
    have HRE : Hid (∀ W, SW w W → Calls Try.prog 20 #[.slice A L.length c, .slice B lf.length e, .int .i64 value, .int .i64 most] W fun e w' => e = .returned (.int .i64 (seN (pls L) lf value most : Int)) ∧ Below W.heap.size W w') := Lib.hid (fun W h => rseats_n A c L B e lf value most W (hL.more h) (hM.more h) hok hll)
    have HBA := Lib.hid hbA
    clear hL hM hE hbA h1 h2 hok hi hx
    generalize (seN (pls L) lf value most : Int) = r at *
    go_enter Try.func5, Try.ntmps5
    go_upto_region 3 with (go_at_call 18; with_reducible refine KE.out.mono ?_; rintro e w1 ⟨rfl, hS1⟩)
    have z0 := bel_cell hS1 y0
    have z1 := bel_cell hS1 y1
    have HW1 : Hid (SW w w1) := Lib.hid (HBA.out.trans (hS1.mono HBA.out.size))
    clear y0 y1 hS1 KE
    obtain ⟨bx, hbx⟩ : ∃ bx, bx = w.heap.size := ⟨_, rfl⟩
    rw [← hbx] at z0 z1
    rw [← hbx]
    have HBX := Lib.hid hbx
    clear hbx
    have q0 := fun x : Wd (SW w1) => SW.cell z0 x
    have q1 := fun x : Wd (SW w1) => SW.cell z1 x
    have KS : Hid (∀ W, SW w1 W → Calls Try.prog 19 #[.slice A L.length c, .slice B lf.length e, .int .i64 value, .int .i64 most] W fun e w' => e = .returned (.int .i64 r) ∧ SW w1 w') := Lib.hid (fun W h => SW.call (fun W' h' => HSE.out W' (Below.trans HW1.out (Below.mono h' HW1.out.size))) W h)
    have KT : Hid (∀ W, SW w1 W → Calls Try.prog 20 #[.slice A L.length c, .slice B lf.length e, .int .i64 value, .int .i64 most] W fun e w' => e = .returned (.int .i64 r) ∧ SW w1 w') := Lib.hid (fun W h => SW.call (fun W' h' => HRE.out W' (Below.trans HW1.out (Below.mono h' HW1.out.size))) W h)
    have KN : Hid (∀ W, SW w1 W → Calls Try.prog 8 #[] W fun e w' => e = .returned (.bool true) ∧ SW w1 w') := Lib.hid (fun W h => SW.call (fun W' h' => KA.out W') W h)
    have hS0 := SW.drew w1
    clear z0 z1 HSE HRE
    have hNe : Nonempty (Wd (SW w1)) := ⟨⟨_, hS0⟩⟩
    refine quietS (S := SW w1) (by kernel_rfl) (by kernel_rfl) (hS0) ?_
    repeat (first | go_big_quiet_skip | (go_big_quiet_want; go_big_quiet_op; first | go_big_quiet_on | go_big_quiet_call (((first | (go_at_call 19; exact quiet_S (KS.out _ (Wd.ok _))) | (go_at_call 20; exact quiet_S (KT.out _ (Wd.ok _))) | (go_at_call 8; exact quiet_S (KN.out _ (Wd.ok _))))))))
    refine wpQuiet_nil ?_
    rintro W ⟨⟨_, hW⟩, rfl⟩
    go_wp2
    go_ret
    exact ⟨rfl, HW1.out.trans (Below.mono hW HW1.out.size)⟩
end Go.Proofs.Ytjogjlfgfohihaa
