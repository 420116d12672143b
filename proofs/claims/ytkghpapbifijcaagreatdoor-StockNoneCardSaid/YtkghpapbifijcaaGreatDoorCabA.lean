/- Walks of the small functions on cabins: isSized, inRange, Authorized, place. -/
import Derived.Test.YtkghpapbifijcaaGreatDoorCabP
namespace Go.Proofs.YtkghpapbifijcaaGreatDoor
open Go.RowKit Go.Shelf
set_option linter.unusedSimpArgs false
set_option linter.unusedVariables false

set_option maxHeartbeats 1000000 in
theorem isSized_any (b : Cb) (w : World) : Calls Tryz.prog 125 #[aggCb b] w fun e w' => e = .returned (.bool (sizB b)) ∧ Below w.heap.size w w' := by
  have HU : Hid (sizB b = (decide (1 ≤ b.seats) && decide (b.seats ≤ 999) && decide (0 ≤ b.over) && decide (b.over ≤ 999))) := Lib.hid rfl
  by_cases h1 : 1 ≤ b.seats
  · by_cases h2 : b.seats ≤ 999
    · by_cases h3 : 0 ≤ b.over
      all_goals
        go_enter Tryz.func125, Tryz.ntmps125
        go_wp2
        go_ret
        exact ⟨ret_bool (by rw [HU.out]; first | (simp [h1, h2, h3]; done) | (simp [h1, h2, h3]; omega)), bel_alloc _ _⟩
    · go_enter Tryz.func125, Tryz.ntmps125
      go_wp2
      go_ret
      exact ⟨ret_bool (by rw [HU.out]; first | (simp [h1, h2]; done) | (simp [h1, h2]; omega)), bel_alloc _ _⟩
  · go_enter Tryz.func125, Tryz.ntmps125
    go_wp2
    go_ret
    exact ⟨ret_bool (by rw [HU.out]; first | (simp [h1]; done) | (simp [h1]; omega)), bel_alloc _ _⟩
set_option maxHeartbeats 1000000 in
theorem inRange_any (b : Cb) (w : World) : Calls Tryz.prog 114 #[aggCb b] w fun e w' => e = .returned (.bool (sizB b)) ∧ Below w.heap.size w w' := by
  have HU : Hid (sizB b = (decide (1 ≤ b.seats) && decide (b.seats ≤ 999) && decide (0 ≤ b.over) && decide (b.over ≤ 999))) := Lib.hid rfl
  by_cases h1 : 1 ≤ b.seats
  · by_cases h2 : b.seats ≤ 999
    · by_cases h3 : 0 ≤ b.over
      all_goals
        go_enter Tryz.func114, Tryz.ntmps114
        go_wp2
        go_ret
        exact ⟨ret_bool (by rw [HU.out]; first | (simp [h1, h2, h3]; done) | (simp [h1, h2, h3]; omega)), bel_alloc _ _⟩
    · go_enter Tryz.func114, Tryz.ntmps114
      go_wp2
      go_ret
      exact ⟨ret_bool (by rw [HU.out]; first | (simp [h1, h2]; done) | (simp [h1, h2]; omega)), bel_alloc _ _⟩
  · go_enter Tryz.func114, Tryz.ntmps114
    go_wp2
    go_ret
    exact ⟨ret_bool (by rw [HU.out]; first | (simp [h1]; done) | (simp [h1]; omega)), bel_alloc _ _⟩
theorem sizB_in {b : Cb} (h : sizB b = true) : 1 ≤ b.seats ∧ b.seats ≤ 999 ∧ 0 ≤ b.over ∧ b.over ≤ 999 := by
  simp only [sizB, Bool.and_eq_true, decide_eq_true_eq] at h
  exact ⟨h.1.1.1, h.1.1.2, h.1.2, h.2⟩
/-- the sum, as the machine adds -/
theorem auth_any (b : Cb) (w : World) (h : sizB b = true) : Calls Tryz.prog 80 #[aggCb b] w fun e w' => e = .returned (.int .i64 (b.seats + b.over)) ∧ Below w.heap.size w w' := by
  obtain ⟨h1, h2, h3, h4⟩ := sizB_in h
  have e1 : IntKind.i64.wrap (b.seats + b.over) = b.seats + b.over := by rw [IntKind.wrap_i64]; omega
  go_enter Tryz.func80, Tryz.ntmps80
  go_wp2
  go_ret
  exact ⟨rfl, bel_alloc _ _⟩
theorem rauth_any (b : Cb) (w : World) (h : sizB b = true) : Calls Tryz.prog 102 #[aggCb b] w fun e w' => e = .returned (.int .i64 (b.seats + b.over)) ∧ Below w.heap.size w w' := by
  obtain ⟨h1, h2, h3, h4⟩ := sizB_in h
  have e1 : IntKind.i64.wrap (b.seats + b.over) = b.seats + b.over := by rw [IntKind.wrap_i64]; omega
  go_enter Tryz.func102, Tryz.ntmps102
  go_wp2
  go_ret
  exact ⟨rfl, bel_alloc _ _⟩
set_option maxHeartbeats 1000000 in
/-- a path without anything ahead, and one behind another -/
theorem rplace0_any (w0 : ByteArray) (k : Nat) (w : World) (hk : k < 100) (hw : w0.size ≤ 100) : Calls Tryz.prog 74 #[.string ⟨#[]⟩, .string w0, .int .i64 (k : Int)] w fun e w' => e = .returned (.string (noB ++ w0 ++ spA ++ decA k)) ∧ Below w.heap.size w w' := by
  have KD := Lib.hid (fun W => rdec_small k (by omega) W)
  have hd := decA_size k hk
  have s0 : noB.size = 0 := rfl
  have s1 : spA.size = 1 := rfl
  have a1 : ∀ W : World, (Op.stringOp .add (⟨#[]⟩ : ByteArray) w0).run Tryz.prog W = .ok (.string (noB ++ w0)) W := fun W => run_string_add_sum W _ _ (by have : (⟨#[]⟩ : ByteArray).size = 0 := rfl; omega)
  have a2 : ∀ W : World, (Op.stringOp .add (noB ++ w0) (⟨#[32]⟩ : ByteArray)).run Tryz.prog W = .ok (.string (noB ++ w0 ++ spA)) W := fun W => run_string_add_sum W _ _ (by have : (⟨#[32]⟩ : ByteArray).size = 1 := rfl; simp only [ByteArray.size_append]; omega)
  have a3 : ∀ W : World, (Op.stringOp .add (noB ++ w0 ++ spA) (decA k)).run Tryz.prog W = .ok (.string (noB ++ w0 ++ spA ++ decA k)) W := fun W => run_string_add_sum W _ _ (by simp only [ByteArray.size_append]; omega)
  clear hd s0 s1
  generalize noB ++ w0 = x1 at *
  generalize x1 ++ spA = x2 at *
  generalize decA k = dk at *
  go_enter Tryz.func74, Tryz.ntmps74
  go_wp2_with (go_at_call 111; refine (KD.out _).mono ?_; rintro e w' ⟨rfl, hb⟩)
  go_ret
  exact ⟨rfl, hb⟩
set_option maxHeartbeats 1000000 in
theorem rplace_any (p w0 : ByteArray) (k : Nat) (w : World) (hk : k < 100) (hw : w0.size ≤ 100) (hp : 0 < p.size) (hp2 : p.size ≤ 1000) : Calls Tryz.prog 74 #[.string p, .string w0, .int .i64 (k : Int)] w fun e w' => e = .returned (.string (p ++ spA ++ w0 ++ spA ++ decA k)) ∧ Below w.heap.size w w' := by
  have KD := Lib.hid (fun W => rdec_small k (by omega) W)
  have hd := decA_size k hk
  have s1 : spA.size = 1 := rfl
  have s2 : (⟨#[32]⟩ : ByteArray).size = 1 := rfl
  have a0 : ∀ W : World, (Op.stringOp .add p (⟨#[32]⟩ : ByteArray)).run Tryz.prog W = .ok (.string (p ++ spA)) W := fun W => run_string_add_sum W _ _ (by omega)
  have a1 : ∀ W : World, (Op.stringOp .add (p ++ spA) w0).run Tryz.prog W = .ok (.string (p ++ spA ++ w0)) W := fun W => run_string_add_sum W _ _ (by simp only [ByteArray.size_append]; omega)
  have a2 : ∀ W : World, (Op.stringOp .add (p ++ spA ++ w0) (⟨#[32]⟩ : ByteArray)).run Tryz.prog W = .ok (.string (p ++ spA ++ w0 ++ spA)) W := fun W => run_string_add_sum W _ _ (by simp only [ByteArray.size_append]; omega)
  have a3 : ∀ W : World, (Op.stringOp .add (p ++ spA ++ w0 ++ spA) (decA k)).run Tryz.prog W = .ok (.string (p ++ spA ++ w0 ++ spA ++ decA k)) W := fun W => run_string_add_sum W _ _ (by simp only [ByteArray.size_append]; omega)
  have e0 := isEmpty_no p hp
  clear hd s1 s2
  generalize p ++ spA = x0 at *
  generalize x0 ++ w0 = x1 at *
  generalize x1 ++ spA = x2 at *
  generalize decA k = dk at *
  go_enter Tryz.func74, Tryz.ntmps74
  go_wp2_with (go_at_call 111; refine (KD.out _).mono ?_; rintro e w' ⟨rfl, hb⟩)
  go_ret
  exact ⟨rfl, hb⟩
end Go.Proofs.YtkghpapbifijcaaGreatDoor
