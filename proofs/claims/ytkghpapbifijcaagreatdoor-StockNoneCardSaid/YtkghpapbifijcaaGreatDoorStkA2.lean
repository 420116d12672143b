/- The chapter's examples. -/
import Derived.Test.YtkghpapbifijcaaGreatDoorStkA1
namespace Go.Proofs.YtkghpapbifijcaaGreatDoor
open Go.RowKit Go.Shelf Go.Maps Go.MapKept
set_option linter.unusedSimpArgs false
set_option linter.unusedVariables false

/-! ### no call but Open adds a leg -/
theorem upd_dom {g : Stk} {i : Lid} {q q' : Lg} (h : g i = some q) (j : Lid) : (updS g i q' j).isSome = (g j).isSome := by
  unfold updS
  by_cases e : j = i
  · subst e; rw [if_pos rfl, h]; rfl
  · rw [if_neg e]
theorem add1_dom (g : Stk) (c : ByteArray) (n : Int) (i j : Lid) : (addG1 g c n i j).isSome = (g j).isSome := by
  unfold addG1
  cases h : g i with
  | none => rfl
  | some q => exact upd_dom h j
theorem adds_dom : ∀ (is : List Lid) (g : Stk) (c : ByteArray) (n : Int) (j : Lid), (addG g is c n j).isSome = (g j).isSome
  | [], g, c, n, j => rfl
  | i :: is, g, c, n, j => by
    have := adds_dom is (addG1 g c n i) c n j
    rw [add1_dom] at this
    exact this
theorem sel_dom (g : Stk) (is : List Lid) (c : ByteArray) (n : Int) (j : Lid) : (selG g is c n j).isSome = (g j).isSome := by
  unfold selG
  split
  · exact adds_dom is g c n j
  · rfl
theorem can_dom (g : Stk) (is : List Lid) (c : ByteArray) (n : Int) (j : Lid) : (canG g is c n j).isSome = (g j).isSome := by
  unfold canG
  split
  · exact adds_dom is g c (-n) j
  · rfl
theorem rsz_dom (cs : List Cf) (g : Stk) (i : Lid) (s : ByteArray) (j : Lid) : (rszG cs g i s j).isSome = (g j).isSome := by
  unfold rszG
  cases h : g i with
  | none => rfl
  | some q => cases hf : findQ cs s with
    | none => rfl
    | some f => exact upd_dom h j
theorem clo_dom (g : Stk) (i j : Lid) : (cloG g i j).isSome = (g j).isSome := by
  unfold cloG
  cases h : g i with
  | none => rfl
  | some q => exact upd_dom h j
theorem opn_same {cs : List Cf} {g : Stk} {i : Lid} {s : ByteArray} (h : (g i).isSome = true) : opnG cs g i s = g := by
  unfold opnG
  rw [if_pos h]
theorem opn_dom {cs : List Cf} {g : Stk} {i : Lid} {s : ByteArray} (h : (findQ cs s).isSome = true) (j : Lid) : (opnG cs g i s j).isSome = ((g j).isSome || decide (j = i)) := by
  unfold opnG
  by_cases h0 : (g i).isSome = true
  · rw [if_pos h0]
    by_cases e : j = i
    · subst e; rw [h0]; simp
    · simp [e]
  · rw [if_neg h0]
    cases hf : findQ cs s with
    | none => rw [hf] at h; cases h
    | some f =>
      unfold updS
      by_cases e : j = i
      · simp [e]
      · simp [e]
theorem okd0 : OkD id0 := ⟨by decide, by decide, by decide, by decide, by decide, by decide⟩
theorem okd1 : OkD id1 := ⟨by decide, by decide, by decide, by decide, by decide, by decide⟩
/-- a row of legs in a block of its own -/
abbrev RwD (k : Nat) (w : World) (l : List Lid) : Prop := RowIn (fun b => b = k) 4 encD w (some ⟨k, 0, none⟩) l
theorem RowIn.imp {R R' : Nat → Prop} {α : Type} {sz : Nat} {enc : α → List Value} {w : World} {A : Option Addr} {l : List α} (h : RowIn R sz enc w A l) (hR : ∀ k, R k → R' k) : RowIn R' sz enc w A l := by
  rcases h with h | ⟨b, o, e, h0, h1⟩
  · exact .inl h
  · exact .inr ⟨b, o, e, hR b h0, h1⟩
theorem RowIn.more {R : Nat → Prop} {α : Type} {sz : Nat} {enc : α → List Value} {w w' : World} {A : Option Addr} {l : List α} (h : RowIn R sz enc w A l) (hb : Below w.heap.size w w') : RowIn R sz enc w' A l := by
  rcases h with h | ⟨b, o, e, h0, h1, h2⟩
  · exact .inl h
  · exact .inr ⟨b, o, e, h0, Nat.lt_of_lt_of_le h1 hb.size, fun i x j u hi hu => (bel_cell hb (h2 i x j u hi hu))⟩
theorem RowIn.one {α : Type} {sz : Nat} {enc : α → List Value} (w : World) (l : List α) (e : TypeId) (hlen : ∀ x, (enc x).length = sz) {cs : Array Value} (hcs : cs = (cellsR enc l).toArray) : RowIn (fun b => b = w.heap.size) sz enc (w.alloc (.cells cs e)) (some ⟨w.heap.size, 0, none⟩) l := by
  subst hcs
  refine .inr ⟨w.heap.size, 0, rfl, rfl, by simp, fun i x j u hi hu => ?_⟩
  rw [cells_new, List.getElem?_toArray, Nat.zero_add]
  exact cellsR_at hlen l i j x u hi hu
theorem rwa_one (w : World) : RwD w.heap.size (w.alloc (.cells #[.string ⟨#[66, 65]⟩, .int .i64 2, .int .i64 9, .string ⟨#[76, 72, 82]⟩] lidT)) [id0] := RowIn.one (sz := 4) (enc := encD) w [id0] lidT (fun _ => rfl) rfl
theorem rwb_one (w : World) : RwD w.heap.size (w.alloc (.cells #[.string ⟨#[66, 65]⟩, .int .i64 2, .int .i64 9, .string ⟨#[76, 72, 82]⟩, .string ⟨#[66, 65]⟩, .int .i64 2, .int .i64 9, .string ⟨#[67, 68, 71]⟩] lidT)) [id0, id1] := RowIn.one (sz := 4) (enc := encD) w [id0, id1] lidT (fun _ => rfl) rfl

/-! ### New at the sample -/
theorem smp_small (n : Nat) : SmallP (smpL n) := by
  refine ⟨by show 2 ≤ 8; decide, fun f hf => ?_⟩
  simp only [smpL, List.mem_cons, List.not_mem_nil, or_false] at hf
  rcases hf with rfl | rfl
  · refine ⟨by show 1 ≤ 8; decide, fun b hb => ?_⟩
    simp only [List.mem_cons, List.not_mem_nil, or_false] at hb
    subst hb; show 2 ≤ 30; decide
  · refine ⟨by show 1 ≤ 8; decide, fun b hb => ?_⟩
    simp only [List.mem_cons, List.not_mem_nil, or_false] at hb
    subst hb; show 2 ≤ 30; decide
theorem smp_ok (n : Nat) : ∀ f ∈ smpL n, OkCf f := by
  intro f hf
  simp only [smpL, List.mem_cons, List.not_mem_nil, or_false] at hf
  have hm : 3 ≤ maxLen := by unfold maxLen; omega
  have h1 : ∀ {x : Cl}, x.code.size ≤ 3 → -9223372036854775808 ≤ x.prot → x.prot ≤ 9223372036854775807 → OkCl x := fun {x} a b c => ⟨Nat.le_trans a hm, b, c⟩
  rcases hf with rfl | rfl
  · refine ⟨hm, by show 1 ≤ 8; decide, fun b hb => ?_⟩
    simp only [List.mem_cons, List.not_mem_nil, or_false] at hb
    subst hb
    refine ⟨Nat.le_trans (show 1 ≤ 3 by decide) hm, by show 2 ≤ 30; decide, fun x hx => ?_⟩
    simp only [List.mem_cons, List.not_mem_nil, or_false] at hx
    rcases hx with rfl | rfl <;> exact h1 (by decide) (by decide) (by decide)
  · refine ⟨hm, by show 1 ≤ 8; decide, fun b hb => ?_⟩
    simp only [List.mem_cons, List.not_mem_nil, or_false] at hb
    subst hb
    refine ⟨Nat.le_trans (show 1 ≤ 3 by decide) hm, by show 2 ≤ 30; decide, fun x hx => ?_⟩
    simp only [List.mem_cons, List.not_mem_nil, or_false] at hx
    rcases hx with rfl | rfl <;> exact h1 (by decide) (by decide) (by decide)
theorem new_smp {A : Option Addr} {n : Nat} {w : World} (h : CfL w (.slice A 2 2) (smpL n)) :
    Calls Tryz.prog 12 #[.slice A 2 2] w fun e w' => ∃ B A1 A2 A3 A4 c1 c2 c3 c4, ∃ R, e = .returned (.tuple #[.pointer (some ⟨B, 0, none⟩), .slice none 0 0]) ∧ SesE w.heap.size R (fun _ => False) B 0 (smpC A1 A2 A3 A4 c1 c2 c3 c4) 100 w' S0 ∧ Below w.heap.size w w' := by
  refine (new_any A 2 (smpL n) w h (smp_small n) (smp_ok n) (by show 2 ≤ 2; decide)).mono ?_
  rintro e w' ⟨⟨_, h2⟩, hb⟩
  obtain ⟨B, cs, R, o, rfl, hS, hsam, hlow⟩ := h2 (smp_con n)
  obtain ⟨A1, A2, A3, A4, c1, c2, c3, c4, rfl⟩ := smp_shape hsam
  exact ⟨B, A1, A2, A3, A4, c1, c2, c3, c4, R, rfl, (ses_new hS hlow hb.size).mono (by decide), hb⟩
end Go.Proofs.YtkghpapbifijcaaGreatDoor
