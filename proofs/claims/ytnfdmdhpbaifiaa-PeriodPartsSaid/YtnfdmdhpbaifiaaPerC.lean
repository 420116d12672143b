/- Walks of the reference's Has and Days; of equal lists. -/
import Derived.Test.YtnfdmdhpbaifiaaPerB
namespace Go.Proofs.Ytnfdmdhpbaifiaa
open Go.RowKit
set_option linter.unusedSimpArgs false
set_option linter.unusedVariables false

theorem quo_bit (d : Int) (k : Nat) (h0 : 0 ≤ d) : ((d / ((2 ^ k : Nat) : Int)).tmod 2 == 1) = d.toNat.testBit k := by
  have e : ((2 ^ k : Nat) : Int) = (2 : Int) ^ k := by simp
  rw [e, tmod_pos _ _ (Int.ediv_nonneg h0 (Int.pow_nonneg (by omega))), shr_bit d k h0]
  cases d.toNat.testBit k <;> rfl
set_option maxHeartbeats 2000000 in
theorem rhas_any (f t d n : Int) (w : World) (h0 : -9223372036854775808 ≤ n) (h1 : n ≤ 9223372036854775807) : Calls Try.prog 11 #[encQ (f, t, d), .int .i64 n] w fun e w' => e = .returned (.bool (hasQ (f, t, d) n)) ∧ Below w.heap.size w w' := by
  have hB : Box3 w w.heap.size (f, t, d) (w.alloc (.cells #[.int .i64 f, .int .i64 t, .int .i64 d] 23)).drew := (Box3.new w (f, t, d) _).more (Below.refl _ _).drew
  have f0 : ∀ x : Wd (Box3 w w.heap.size (f, t, d)), x.w.cell? ⟨w.heap.size, 0, none⟩ = some (.int .i64 f) := fun x => x.ok.1
  have f1 : ∀ x : Wd (Box3 w w.heap.size (f, t, d)), x.w.cell? ⟨w.heap.size, 1, none⟩ = some (.int .i64 t) := fun x => x.ok.2.1
  have f2 : ∀ x : Wd (Box3 w w.heap.size (f, t, d)), x.w.cell? ⟨w.heap.size, 2, none⟩ = some (.int .i64 d) := fun x => x.ok.2.2.1
  have CV := Lib.hid (Box3.call (w := w) (B := w.heap.size) (p := (f, t, d)) (fun W => rcheck_any f t d W))
  cases h : okQ (f, t, d)
  · have HR : Hid (hasQ (f, t, d) n = false) := Lib.hid (by simp [hasQ, h])
    have he := errQ_two h
    generalize errQ (f, t, d) = z at *
    clear h
    go_enter Try.func11, Try.ntmps11
    go_wp2
    have hNe : Nonempty (Wd (Box3 w w.heap.size (f, t, d))) := ⟨⟨_, hB⟩⟩
    refine quietS (S := Box3 w w.heap.size (f, t, d)) (by kernel_rfl) (by kernel_rfl) (hB) ?_
    repeat (first | go_big_quiet_skip | (go_big_quiet_want; go_big_quiet_op; first | go_big_quiet_on | go_big_quiet_call ((go_at_call 9; exact quiet_S (CV.out _ (Wd.ok _))))))
    refine wpQuiet_nil ?_
    rintro _ ⟨⟨W, hW⟩, rfl⟩
    go_wp2
    go_ret
    exact ⟨ret_bool HR.out.symm, hW.2.2.2⟩
  · have hq := okQ_yes h
    have he := errQ_ok h
    rw [he] at CV
    clear he
    by_cases a1 : f ≤ n
    · by_cases a2 : n ≤ t
      · have HR : Hid (hasQ (f, t, d) n = ((d / ((2 ^ wkN n : Nat) : Int)).tmod 2 == 1)) := Lib.hid (by rw [quo_bit d (wkN n) (by have := hq.2.2.2.2.1; simp at this; omega)]; simp [hasQ, a1, a2, h, wdB])
        have CB := Lib.hid (Box3.call (w := w) (B := w.heap.size) (p := (f, t, d)) (fun W => (bit_any n W h0 h1).mono (R' := fun e w' => e = .returned (.int .i64 ((2 ^ wkN n : Nat) : Int)) ∧ Below W.heap.size W w') (by rintro e w' ⟨rfl, rfl⟩; exact ⟨rfl, Below.refl _ _⟩)))
        have hp := pow_step (wkN n) (wkN_lt n)
        have hd1 : 1 ≤ d := hq.2.2.2.2.1
        have hd2 : d ≤ 127 := hq.2.2.2.2.2
        generalize ((2 ^ wkN n : Nat) : Int) = y at *
        have y0 : ¬ y = 0 := by omega
        have y1 : ¬ y = -1 := by omega
        clear h hq
        go_enter Try.func11, Try.ntmps11
        go_wp2
        have hNe : Nonempty (Wd (Box3 w w.heap.size (f, t, d))) := ⟨⟨_, hB⟩⟩
        refine quietS (S := Box3 w w.heap.size (f, t, d)) (by kernel_rfl) (by kernel_rfl) (hB) ?_
        repeat (first | go_big_quiet_skip | (go_big_quiet_want; go_big_quiet_op; first | go_big_quiet_on | go_big_quiet_call ((first | (go_at_call 9; exact quiet_S (CV.out _ (Wd.ok _))) | (go_at_call 28; exact quiet_S (CB.out _ (Wd.ok _)))))))
        refine wpQuiet_nil ?_
        rintro _ ⟨⟨W, hW⟩, rfl⟩
        go_wp2
        go_ret
        exact ⟨ret_bool HR.out.symm, hW.2.2.2⟩
      · have HR : Hid (hasQ (f, t, d) n = false) := Lib.hid (by simp [hasQ, a2])
        have a3 : decide (n ≤ t) = false := decide_eq_false a2
        clear h hq
        go_enter Try.func11, Try.ntmps11
        go_wp2
        have hNe : Nonempty (Wd (Box3 w w.heap.size (f, t, d))) := ⟨⟨_, hB⟩⟩
        refine quietS (S := Box3 w w.heap.size (f, t, d)) (by kernel_rfl) (by kernel_rfl) (hB) ?_
        repeat (first | go_big_quiet_skip | (go_big_quiet_want; go_big_quiet_op; first | go_big_quiet_on | go_big_quiet_call ((go_at_call 9; exact quiet_S (CV.out _ (Wd.ok _))))))
        refine wpQuiet_nil ?_
        rintro _ ⟨⟨W, hW⟩, rfl⟩
        go_wp2
        go_ret
        exact ⟨ret_bool HR.out.symm, hW.2.2.2⟩
    · have HR : Hid (hasQ (f, t, d) n = false) := Lib.hid (by simp [hasQ, a1])
      have a3 : decide (f ≤ n) = false := decide_eq_false a1
      clear h hq
      go_enter Try.func11, Try.ntmps11
      go_wp2
      have hNe : Nonempty (Wd (Box3 w w.heap.size (f, t, d))) := ⟨⟨_, hB⟩⟩
      refine quietS (S := Box3 w w.heap.size (f, t, d)) (by kernel_rfl) (by kernel_rfl) (hB) ?_
      repeat (first | go_big_quiet_skip | (go_big_quiet_want; go_big_quiet_op; first | go_big_quiet_on | go_big_quiet_call ((go_at_call 9; exact quiet_S (CV.out _ (Wd.ok _))))))
      refine wpQuiet_nil ?_
      rintro _ ⟨⟨W, hW⟩, rfl⟩
      go_wp2
      go_ret
      exact ⟨ret_bool HR.out.symm, hW.2.2.2⟩

end Go.Proofs.Ytnfdmdhpbaifiaa
