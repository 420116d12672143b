/- Walks of the reference's place. -/
import Derived.Test.YtkghpapbifijcaaGreatDoorCabA
namespace Go.Proofs.YtkghpapbifijcaaGreatDoor
open Go.RowKit Go.Shelf
set_option linter.unusedSimpArgs false
set_option linter.unusedVariables false

set_option maxHeartbeats 1000000 in
theorem rplaceD0_any (w0 : ByteArray) (k : Nat) (w : World) (hk : k < 100) (hw : w0.size ≤ 100) : Calls Tryz.prog 74 #[.string ⟨#[]⟩, .string w0, .int .i64 (k : Int)] w fun e w' => e = .returned (.string (noB ++ w0 ++ spA ++ decA k)) ∧ ∃ n, w' = w.drewN n := by
  have KD : Hid (∀ W, Calls Tryz.prog 111 #[.int .i64 (k : Int)] W fun e w' => e = .returned (.string (decA k)) ∧ ∃ n, w' = W.drewN n) := Lib.hid (fun W => rdecimal_any (k : Int) W (by omega) (by omega))
  have hd := decA_size k hk
  have s0 : noB.size = 0 := rfl
  have s1 : spA.size = 1 := rfl
  have a1 : ∀ W : World, (Op.stringOp .add (⟨#[]⟩ : ByteArray) w0).run Tryz.prog W = .ok (.string (noB ++ w0)) W := fun W => run_string_add_sum W _ _ (by have : (⟨#[]⟩ : ByteArray).size = 0 := rfl; omega)
  have a2 : ∀ W : World, (Op.stringOp .add (noB ++ w0) (⟨#[32]⟩ : ByteArray)).run Tryz.prog W = .ok (.string (noB ++ w0 ++ spA)) W := fun W => run_string_add_sum W _ _ (by have : (⟨#[32]⟩ : ByteArray).size = 1 := rfl; simp only [ByteArray.size_append]; omega)
  have a3 : ∀ W : World, (Op.stringOp .add (noB ++ w0 ++ spA) (decA k)).run Tryz.prog W = .ok (.string (noB ++ w0 ++ spA ++ decA k)) W := fun W => run_string_add_sum W _ _ (by simp only [ByteArray.size_append]; omega)
  clear hd s0 s1
  generalize noB ++ w0 = x1 at *
  generalize x1 ++ spA = x2 at *
  generalize decA k = dk at *
  go_enter Tryz.func74, Tryz.ntmps74
  go_wp2_with (go_at_call 111; refine (KD.out _).mono ?_; rintro e w' ⟨rfl, n, rfl⟩)
  go_ret
  exact ⟨rfl, n, rfl⟩
set_option maxHeartbeats 1000000 in
theorem rplaceD_any (p w0 : ByteArray) (k : Nat) (w : World) (hk : k < 100) (hw : w0.size ≤ 100) (hp : 0 < p.size) (hp2 : p.size ≤ 1000) : Calls Tryz.prog 74 #[.string p, .string w0, .int .i64 (k : Int)] w fun e w' => e = .returned (.string (p ++ spA ++ w0 ++ spA ++ decA k)) ∧ ∃ n, w' = w.drewN n := by
  have KD : Hid (∀ W, Calls Tryz.prog 111 #[.int .i64 (k : Int)] W fun e w' => e = .returned (.string (decA k)) ∧ ∃ n, w' = W.drewN n) := Lib.hid (fun W => rdecimal_any (k : Int) W (by omega) (by omega))
  have hd := decA_size k hk
  have s1 : spA.size = 1 := rfl
  have s2 : (⟨#[32]⟩ : ByteArray).size = 1 := rfl
  have a0 : ∀ W : World, (Op.stringOp .add p (⟨#[32]⟩ : ByteArray)).run Tryz.prog W = .ok (.string (p ++ spA)) W := fun W => run_string_add_sum W _ _ (by omega)
  have a1 : ∀ W : World, (Op.stringOp .add (p ++ spA) w0).run Tryz.prog W = .ok (.string (p ++ spA ++ w0)) W := fun W => run_string_add_sum W _ _ (by simp only [ByteArray.size_append]; omega)
  have a2 : ∀ W : World, (Op.stringOp .add (p ++ spA ++ w0) (⟨#[32]⟩ : ByteArray)).run Tryz.prog W = .ok (.string (p ++ spA ++ w0 ++ spA)) W := fun W => run_string_add_sum W _ _ (by simp only [ByteArray.size_append]; omega)
  have a3 : ∀ W : World, (Op.stringOp .add (p ++ spA ++ w0 ++ spA) (decA k)).run Tryz.prog W = .ok (.string (p ++ spA ++ w0 ++ spA ++ decA k)) W := fun W => run_string_add_sum W _ _ (by simp only [ByteArray.size_append]; omega)
  have e0 := isEmpty_no p hp
  clear hd s1 s2
  generalize p ++ spA = x0 at *
  generalize x0 ++ w0 = x1 at *
  generalize x1 ++ spA = x2 at *
  generalize decA k = dk at *
  go_enter Tryz.func74, Tryz.ntmps74
  go_wp2_with (go_at_call 111; refine (KD.out _).mono ?_; rintro e w' ⟨rfl, n, rfl⟩)
  go_ret
  exact ⟨rfl, n, rfl⟩
end Go.Proofs.YtkghpapbifijcaaGreatDoor
