/- The chapter's examples. -/
import Derived.Test.YtkghpapbifijcaaGreatDoorStk9
namespace Go.Proofs.YtkghpapbifijcaaGreatDoor
open Go.RowKit Go.Shelf Go.Maps Go.MapKept
set_option linter.unusedSimpArgs false
set_option linter.unusedVariables false

abbrev smpC (A1 A2 A3 A4 : Option Addr) (c1 c2 c3 c4 : Nat) : List Cf := [smpA A1 A2 c1 c2, smpB A3 A4 c3 c4]
theorem smp_shape {cs : List Cf} {n : Nat} (h : SamL cs (smpL n)) : ∃ A1 A2 A3 A4 c1 c2 c3 c4, cs = smpC A1 A2 A3 A4 c1 c2 c3 c4 := by
  have one : ∀ {f : Cf} {A : Option Addr} {c : Nat} {b : Cb} {e : ByteArray}, SamC f ⟨e, A, c, [b]⟩ → ∃ A' c' B d, f = ⟨e, A', c', [{ b with A := B, c := d }]⟩ := by
    intro f A c b e hf
    obtain ⟨fe, fA, fc, fl⟩ := f
    obtain ⟨h1, h2⟩ := hf
    dsimp only at h1 h2
    subst h1
    cases fl with
    | nil => cases h2
    | cons x r =>
      simp only [List.map_cons, List.map_nil, List.cons.injEq, List.map_eq_nil_iff] at h2
      obtain ⟨h3, rfl⟩ := h2
      obtain ⟨B, d, rfl⟩ := pcb_eq h3
      exact ⟨fA, fc, B, d, rfl⟩
  match cs, h with
  | [], h => exact absurd h.len (by simp)
  | [f], h => exact absurd h.len (by simp)
  | f :: f' :: f'' :: r, h => exact absurd h.len (by simp)
  | [f, f'], h =>
    obtain ⟨A1, c1, A2, c2, rfl⟩ := one (h.each 0 f _ rfl rfl)
    obtain ⟨A3, c3, A4, c4, rfl⟩ := one (h.each 1 f' _ rfl rfl)
    exact ⟨A1, A2, A3, A4, c1, c2, c3, c4, rfl⟩
theorem smp_con (n : Nat) : conF (smpL n) 2 = [] := by kernel_rfl
abbrev S0 : Stk := fun _ => none
section
variable (A1 A2 A3 A4 : Option Addr) (c1 c2 c3 c4 : Nat)
abbrev G1 : Stk := opnG (smpC A1 A2 A3 A4 c1 c2 c3 c4) S0 id0 ⟨#[51, 50, 48]⟩
abbrev G2 : Stk := opnG (smpC A1 A2 A3 A4 c1 c2 c3 c4) (G1 A1 A2 A3 A4 c1 c2 c3 c4) id0 ⟨#[51, 50, 48]⟩
abbrev G3 : Stk := selG (G2 A1 A2 A3 A4 c1 c2 c3 c4) [id0] ⟨#[77]⟩ 8
abbrev G4 : Stk := selG (G3 A1 A2 A3 A4 c1 c2 c3 c4) [id0] ⟨#[77]⟩ 1
abbrev G5 : Stk := selG (G4 A1 A2 A3 A4 c1 c2 c3 c4) [id0, id1] ⟨#[89]⟩ 1
abbrev G6 : Stk := rszG (smpC A1 A2 A3 A4 c1 c2 c3 c4) (G5 A1 A2 A3 A4 c1 c2 c3 c4) id0 ⟨#[51, 49, 57]⟩
abbrev G7 : Stk := cloG (G6 A1 A2 A3 A4 c1 c2 c3 c4) id0
abbrev G8 : Stk := cloG (G7 A1 A2 A3 A4 c1 c2 c3 c4) id0
theorem aw1 : opnE (smpC A1 A2 A3 A4 c1 c2 c3 c4) S0 id0 ⟨#[51, 50, 48]⟩ = 0 := by kernel_rfl
theorem aw2 : opnE (smpC A1 A2 A3 A4 c1 c2 c3 c4) (G1 A1 A2 A3 A4 c1 c2 c3 c4) id0 ⟨#[51, 50, 48]⟩ = 6 := by kernel_rfl
theorem aw3 : selP (G2 A1 A2 A3 A4 c1 c2 c3 c4) [id0] ⟨#[77]⟩ 8 = 0 := by kernel_rfl
theorem aw4 : selP (G3 A1 A2 A3 A4 c1 c2 c3 c4) [id0] ⟨#[77]⟩ 1 = 17 := by kernel_rfl
theorem aw5 : freeG (G4 A1 A2 A3 A4 c1 c2 c3 c4) id0 ⟨#[89]⟩ = 3 := by kernel_rfl
theorem aw6 : selP (G4 A1 A2 A3 A4 c1 c2 c3 c4) [id0, id1] ⟨#[89]⟩ 1 = 7 := by kernel_rfl
theorem aw7 : leftG (G5 A1 A2 A3 A4 c1 c2 c3 c4) id0 ⟨#[89]⟩ = 3 := by kernel_rfl
theorem aw8 : rszE (smpC A1 A2 A3 A4 c1 c2 c3 c4) (G5 A1 A2 A3 A4 c1 c2 c3 c4) id0 ⟨#[51, 49, 57]⟩ = 0 := by
  have h : (G5 A1 A2 A3 A4 c1 c2 c3 c4 id0).isSome = true ∧ (findQ (smpC A1 A2 A3 A4 c1 c2 c3 c4) ⟨#[51, 49, 57]⟩).isSome = true := ⟨by kernel_rfl, by kernel_rfl⟩
  unfold rszE
  rw [if_pos h]
theorem aw9 : excG (G6 A1 A2 A3 A4 c1 c2 c3 c4) id0 = 2 := by kernel_rfl
theorem aw10 : cntG (G6 A1 A2 A3 A4 c1 c2 c3 c4) id0 = [(⟨#[89]⟩, 0), (⟨#[77]⟩, 8)] := by kernel_rfl
theorem aw11 : cloE (G6 A1 A2 A3 A4 c1 c2 c3 c4) id0 = 0 := by kernel_rfl
theorem aw12 : cloE (G7 A1 A2 A3 A4 c1 c2 c3 c4) id0 = 10 := by kernel_rfl
end
end Go.Proofs.YtkghpapbifijcaaGreatDoor
