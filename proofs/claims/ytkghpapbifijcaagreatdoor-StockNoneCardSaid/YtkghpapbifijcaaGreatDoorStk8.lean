/- The law's examples: configurations, identifiers. -/
import Derived.Test.YtkghpapbifijcaaGreatDoorStk7
namespace Go.Proofs.YtkghpapbifijcaaGreatDoor
open Go.RowKit Go.Shelf Go.Maps Go.MapKept
set_option linter.unusedSimpArgs false
set_option linter.unusedVariables false

abbrev cbA (A : Option Addr) (c : Nat) : Cb := ⟨⟨#[89]⟩, 10, 1, A, c, [⟨⟨#[89]⟩, 3⟩, ⟨⟨#[77]⟩, 3⟩]⟩
abbrev cbB (A : Option Addr) (c : Nat) : Cb := ⟨⟨#[89]⟩, 6, 0, A, c, [⟨⟨#[89]⟩, 0⟩, ⟨⟨#[77]⟩, 0⟩]⟩
abbrev cfA (A : Option Addr) (n c : Nat) (B : Option Addr) (d : Nat) : Cf := ⟨⟨#[51, 50, 48]⟩, A, c, [cbA B d]⟩
abbrev smpA (A B : Option Addr) (c d : Nat) : Cf := ⟨⟨#[51, 50, 48]⟩, A, c, [cbA B d]⟩
abbrev smpB (A B : Option Addr) (c d : Nat) : Cf := ⟨⟨#[51, 49, 57]⟩, A, c, [cbB B d]⟩
abbrev smpL (n : Nat) : List Cf := [smpA (some ⟨n + 1, 0, none⟩) (some ⟨n, 0, none⟩) 1 2, smpB (some ⟨n + 1 + 1 + 1, 0, none⟩) (some ⟨n + 1 + 1, 0, none⟩) 1 2]
set_option maxRecDepth 100000 in
set_option maxHeartbeats 4000000 in
theorem smp_any (w : World) : Calls Tryz.prog 40 #[] w fun e w' => e = .returned (.slice (some ⟨w.heap.size + 1 + 1 + 1 + 1, 0, none⟩) 2 2) ∧ CfL w' (.slice (some ⟨w.heap.size + 1 + 1 + 1 + 1, 0, none⟩) 2 2) (smpL w.heap.size) ∧ Below w.heap.size w w' := by
  have hb0 := bel_alloc w (.cells #[.string ⟨#[89]⟩, .int .i64 3, .string ⟨#[77]⟩, .int .i64 3] clT)
  have hb1 := bel_alloc (w.alloc (.cells #[.string ⟨#[89]⟩, .int .i64 3, .string ⟨#[77]⟩, .int .i64 3] clT)) (.cells #[.string ⟨#[89]⟩, .int .i64 10, .int .i64 1, .slice (some ⟨w.heap.size, 0, none⟩) 2 2] cbT)
  have hb2 := bel_alloc ((w.alloc (.cells #[.string ⟨#[89]⟩, .int .i64 3, .string ⟨#[77]⟩, .int .i64 3] clT)).alloc (.cells #[.string ⟨#[89]⟩, .int .i64 10, .int .i64 1, .slice (some ⟨w.heap.size, 0, none⟩) 2 2] cbT)) (.cells #[.string ⟨#[89]⟩, .int .i64 0, .string ⟨#[77]⟩, .int .i64 0] clT)
  have hb3 := bel_alloc (((w.alloc (.cells #[.string ⟨#[89]⟩, .int .i64 3, .string ⟨#[77]⟩, .int .i64 3] clT)).alloc (.cells #[.string ⟨#[89]⟩, .int .i64 10, .int .i64 1, .slice (some ⟨w.heap.size, 0, none⟩) 2 2] cbT)).alloc (.cells #[.string ⟨#[89]⟩, .int .i64 0, .string ⟨#[77]⟩, .int .i64 0] clT)) (.cells #[.string ⟨#[89]⟩, .int .i64 6, .int .i64 0, .slice (some ⟨(w.heap.size + 1 + 1), 0, none⟩) 2 2] cbT)
  have hb4 := bel_alloc ((((w.alloc (.cells #[.string ⟨#[89]⟩, .int .i64 3, .string ⟨#[77]⟩, .int .i64 3] clT)).alloc (.cells #[.string ⟨#[89]⟩, .int .i64 10, .int .i64 1, .slice (some ⟨w.heap.size, 0, none⟩) 2 2] cbT)).alloc (.cells #[.string ⟨#[89]⟩, .int .i64 0, .string ⟨#[77]⟩, .int .i64 0] clT)).alloc (.cells #[.string ⟨#[89]⟩, .int .i64 6, .int .i64 0, .slice (some ⟨(w.heap.size + 1 + 1), 0, none⟩) 2 2] cbT)) (.cells #[.string ⟨#[51, 50, 48]⟩, .slice (some ⟨(w.heap.size + 1), 0, none⟩) 1 1, .string ⟨#[51, 49, 57]⟩, .slice (some ⟨(w.heap.size + 1 + 1 + 1), 0, none⟩) 1 1] cfT)
  have s1 : (w.alloc (.cells #[.string ⟨#[89]⟩, .int .i64 3, .string ⟨#[77]⟩, .int .i64 3] clT)).heap.size = (w.heap.size + 1) := by simp only [World.size_alloc]
  have s2 : ((w.alloc (.cells #[.string ⟨#[89]⟩, .int .i64 3, .string ⟨#[77]⟩, .int .i64 3] clT)).alloc (.cells #[.string ⟨#[89]⟩, .int .i64 10, .int .i64 1, .slice (some ⟨w.heap.size, 0, none⟩) 2 2] cbT)).heap.size = (w.heap.size + 1 + 1) := by simp only [World.size_alloc]
  have s3 : (((w.alloc (.cells #[.string ⟨#[89]⟩, .int .i64 3, .string ⟨#[77]⟩, .int .i64 3] clT)).alloc (.cells #[.string ⟨#[89]⟩, .int .i64 10, .int .i64 1, .slice (some ⟨w.heap.size, 0, none⟩) 2 2] cbT)).alloc (.cells #[.string ⟨#[89]⟩, .int .i64 0, .string ⟨#[77]⟩, .int .i64 0] clT)).heap.size = (w.heap.size + 1 + 1 + 1) := by simp only [World.size_alloc]
  have s4 : ((((w.alloc (.cells #[.string ⟨#[89]⟩, .int .i64 3, .string ⟨#[77]⟩, .int .i64 3] clT)).alloc (.cells #[.string ⟨#[89]⟩, .int .i64 10, .int .i64 1, .slice (some ⟨w.heap.size, 0, none⟩) 2 2] cbT)).alloc (.cells #[.string ⟨#[89]⟩, .int .i64 0, .string ⟨#[77]⟩, .int .i64 0] clT)).alloc (.cells #[.string ⟨#[89]⟩, .int .i64 6, .int .i64 0, .slice (some ⟨(w.heap.size + 1 + 1), 0, none⟩) 2 2] cbT)).heap.size = (w.heap.size + 1 + 1 + 1 + 1) := by simp only [World.size_alloc]
  have s5 : (((((w.alloc (.cells #[.string ⟨#[89]⟩, .int .i64 3, .string ⟨#[77]⟩, .int .i64 3] clT)).alloc (.cells #[.string ⟨#[89]⟩, .int .i64 10, .int .i64 1, .slice (some ⟨w.heap.size, 0, none⟩) 2 2] cbT)).alloc (.cells #[.string ⟨#[89]⟩, .int .i64 0, .string ⟨#[77]⟩, .int .i64 0] clT)).alloc (.cells #[.string ⟨#[89]⟩, .int .i64 6, .int .i64 0, .slice (some ⟨(w.heap.size + 1 + 1), 0, none⟩) 2 2] cbT)).alloc (.cells #[.string ⟨#[51, 50, 48]⟩, .slice (some ⟨(w.heap.size + 1), 0, none⟩) 1 1, .string ⟨#[51, 49, 57]⟩, .slice (some ⟨(w.heap.size + 1 + 1 + 1), 0, none⟩) 1 1] cfT)).heap.size = (w.heap.size + 1 + 1 + 1 + 1 + 1) := by simp only [World.size_alloc]
  have r0 : RowL 2 encCl (w.alloc (.cells #[.string ⟨#[89]⟩, .int .i64 3, .string ⟨#[77]⟩, .int .i64 3] clT)) (.slice (some ⟨w.heap.size, 0, none⟩) 2 2) [⟨⟨#[89]⟩, 3⟩, ⟨⟨#[77]⟩, 3⟩] := by
    have h := RowL.new (enc := encCl) (sz := 2) w [⟨⟨#[89]⟩, 3⟩, ⟨⟨#[77]⟩, 3⟩] clT (fun _ => rfl) (cs := #[.string ⟨#[89]⟩, .int .i64 3, .string ⟨#[77]⟩, .int .i64 3]) rfl 2
    skip
    exact h
  have r1 : RowL 4 encCb ((w.alloc (.cells #[.string ⟨#[89]⟩, .int .i64 3, .string ⟨#[77]⟩, .int .i64 3] clT)).alloc (.cells #[.string ⟨#[89]⟩, .int .i64 10, .int .i64 1, .slice (some ⟨w.heap.size, 0, none⟩) 2 2] cbT)) (.slice (some ⟨(w.heap.size + 1), 0, none⟩) 1 1) [cbA (some ⟨w.heap.size, 0, none⟩) 2] := by
    have h := RowL.new (enc := encCb) (sz := 4) (w.alloc (.cells #[.string ⟨#[89]⟩, .int .i64 3, .string ⟨#[77]⟩, .int .i64 3] clT)) [cbA (some ⟨w.heap.size, 0, none⟩) 2] cbT (fun _ => rfl) (cs := #[.string ⟨#[89]⟩, .int .i64 10, .int .i64 1, .slice (some ⟨w.heap.size, 0, none⟩) 2 2]) rfl 1
    rw [s1] at h
    exact h
  have r2 : RowL 2 encCl (((w.alloc (.cells #[.string ⟨#[89]⟩, .int .i64 3, .string ⟨#[77]⟩, .int .i64 3] clT)).alloc (.cells #[.string ⟨#[89]⟩, .int .i64 10, .int .i64 1, .slice (some ⟨w.heap.size, 0, none⟩) 2 2] cbT)).alloc (.cells #[.string ⟨#[89]⟩, .int .i64 0, .string ⟨#[77]⟩, .int .i64 0] clT)) (.slice (some ⟨(w.heap.size + 1 + 1), 0, none⟩) 2 2) [⟨⟨#[89]⟩, 0⟩, ⟨⟨#[77]⟩, 0⟩] := by
    have h := RowL.new (enc := encCl) (sz := 2) ((w.alloc (.cells #[.string ⟨#[89]⟩, .int .i64 3, .string ⟨#[77]⟩, .int .i64 3] clT)).alloc (.cells #[.string ⟨#[89]⟩, .int .i64 10, .int .i64 1, .slice (some ⟨w.heap.size, 0, none⟩) 2 2] cbT)) [⟨⟨#[89]⟩, 0⟩, ⟨⟨#[77]⟩, 0⟩] clT (fun _ => rfl) (cs := #[.string ⟨#[89]⟩, .int .i64 0, .string ⟨#[77]⟩, .int .i64 0]) rfl 2
    rw [s2] at h
    exact h
  have r3 : RowL 4 encCb ((((w.alloc (.cells #[.string ⟨#[89]⟩, .int .i64 3, .string ⟨#[77]⟩, .int .i64 3] clT)).alloc (.cells #[.string ⟨#[89]⟩, .int .i64 10, .int .i64 1, .slice (some ⟨w.heap.size, 0, none⟩) 2 2] cbT)).alloc (.cells #[.string ⟨#[89]⟩, .int .i64 0, .string ⟨#[77]⟩, .int .i64 0] clT)).alloc (.cells #[.string ⟨#[89]⟩, .int .i64 6, .int .i64 0, .slice (some ⟨(w.heap.size + 1 + 1), 0, none⟩) 2 2] cbT)) (.slice (some ⟨(w.heap.size + 1 + 1 + 1), 0, none⟩) 1 1) [cbB (some ⟨(w.heap.size + 1 + 1), 0, none⟩) 2] := by
    have h := RowL.new (enc := encCb) (sz := 4) (((w.alloc (.cells #[.string ⟨#[89]⟩, .int .i64 3, .string ⟨#[77]⟩, .int .i64 3] clT)).alloc (.cells #[.string ⟨#[89]⟩, .int .i64 10, .int .i64 1, .slice (some ⟨w.heap.size, 0, none⟩) 2 2] cbT)).alloc (.cells #[.string ⟨#[89]⟩, .int .i64 0, .string ⟨#[77]⟩, .int .i64 0] clT)) [cbB (some ⟨(w.heap.size + 1 + 1), 0, none⟩) 2] cbT (fun _ => rfl) (cs := #[.string ⟨#[89]⟩, .int .i64 6, .int .i64 0, .slice (some ⟨(w.heap.size + 1 + 1), 0, none⟩) 2 2]) rfl 1
    rw [s3] at h
    exact h
  have r4 : RowL 2 encCf (((((w.alloc (.cells #[.string ⟨#[89]⟩, .int .i64 3, .string ⟨#[77]⟩, .int .i64 3] clT)).alloc (.cells #[.string ⟨#[89]⟩, .int .i64 10, .int .i64 1, .slice (some ⟨w.heap.size, 0, none⟩) 2 2] cbT)).alloc (.cells #[.string ⟨#[89]⟩, .int .i64 0, .string ⟨#[77]⟩, .int .i64 0] clT)).alloc (.cells #[.string ⟨#[89]⟩, .int .i64 6, .int .i64 0, .slice (some ⟨(w.heap.size + 1 + 1), 0, none⟩) 2 2] cbT)).alloc (.cells #[.string ⟨#[51, 50, 48]⟩, .slice (some ⟨(w.heap.size + 1), 0, none⟩) 1 1, .string ⟨#[51, 49, 57]⟩, .slice (some ⟨(w.heap.size + 1 + 1 + 1), 0, none⟩) 1 1] cfT)) (.slice (some ⟨(w.heap.size + 1 + 1 + 1 + 1), 0, none⟩) 2 2) (smpL w.heap.size) := by
    have h := RowL.new (enc := encCf) (sz := 2) ((((w.alloc (.cells #[.string ⟨#[89]⟩, .int .i64 3, .string ⟨#[77]⟩, .int .i64 3] clT)).alloc (.cells #[.string ⟨#[89]⟩, .int .i64 10, .int .i64 1, .slice (some ⟨w.heap.size, 0, none⟩) 2 2] cbT)).alloc (.cells #[.string ⟨#[89]⟩, .int .i64 0, .string ⟨#[77]⟩, .int .i64 0] clT)).alloc (.cells #[.string ⟨#[89]⟩, .int .i64 6, .int .i64 0, .slice (some ⟨(w.heap.size + 1 + 1), 0, none⟩) 2 2] cbT)) (smpL w.heap.size) cfT (fun _ => rfl) (cs := #[.string ⟨#[51, 50, 48]⟩, .slice (some ⟨(w.heap.size + 1), 0, none⟩) 1 1, .string ⟨#[51, 49, 57]⟩, .slice (some ⟨(w.heap.size + 1 + 1 + 1), 0, none⟩) 1 1]) rfl 2
    rw [s4] at h
    exact h
  have t0 := (RowL.more (RowL.more (RowL.more (RowL.more r0 hb1) hb2) hb3) hb4)
  have t1 := (RowL.more (RowL.more (RowL.more r1 hb2) hb3) hb4)
  have t2 := (RowL.more (RowL.more r2 hb3) hb4)
  have t3 := (RowL.more r3 hb4)
  have HB : Hid (Below w.heap.size w (((((w.alloc (.cells #[.string ⟨#[89]⟩, .int .i64 3, .string ⟨#[77]⟩, .int .i64 3] clT)).alloc (.cells #[.string ⟨#[89]⟩, .int .i64 10, .int .i64 1, .slice (some ⟨w.heap.size, 0, none⟩) 2 2] cbT)).alloc (.cells #[.string ⟨#[89]⟩, .int .i64 0, .string ⟨#[77]⟩, .int .i64 0] clT)).alloc (.cells #[.string ⟨#[89]⟩, .int .i64 6, .int .i64 0, .slice (some ⟨(w.heap.size + 1 + 1), 0, none⟩) 2 2] cbT)).alloc (.cells #[.string ⟨#[51, 50, 48]⟩, .slice (some ⟨(w.heap.size + 1), 0, none⟩) 1 1, .string ⟨#[51, 49, 57]⟩, .slice (some ⟨(w.heap.size + 1 + 1 + 1), 0, none⟩) 1 1] cfT))) := Lib.hid ((((hb0.trans (hb1.mono hb0.size)).trans (hb2.mono (by rw [s2]; omega))).trans (hb3.mono (by rw [s3]; omega))).trans (hb4.mono (by rw [s4]; omega)))
  have HX : Hid (CfL (((((w.alloc (.cells #[.string ⟨#[89]⟩, .int .i64 3, .string ⟨#[77]⟩, .int .i64 3] clT)).alloc (.cells #[.string ⟨#[89]⟩, .int .i64 10, .int .i64 1, .slice (some ⟨w.heap.size, 0, none⟩) 2 2] cbT)).alloc (.cells #[.string ⟨#[89]⟩, .int .i64 0, .string ⟨#[77]⟩, .int .i64 0] clT)).alloc (.cells #[.string ⟨#[89]⟩, .int .i64 6, .int .i64 0, .slice (some ⟨(w.heap.size + 1 + 1), 0, none⟩) 2 2] cbT)).alloc (.cells #[.string ⟨#[51, 50, 48]⟩, .slice (some ⟨(w.heap.size + 1), 0, none⟩) 1 1, .string ⟨#[51, 49, 57]⟩, .slice (some ⟨(w.heap.size + 1 + 1 + 1), 0, none⟩) 1 1] cfT)) (.slice (some ⟨(w.heap.size + 1 + 1 + 1 + 1), 0, none⟩) 2 2) (smpL w.heap.size)) := Lib.hid ⟨r4, fun f hf => by
    simp only [smpL, List.mem_cons, List.not_mem_nil, or_false] at hf
    rcases hf with rfl | rfl
    · exact ⟨t1, fun b hb => by simp only [List.mem_cons, List.not_mem_nil, or_false] at hb; subst hb; exact t0⟩
    · exact ⟨t3, fun b hb => by simp only [List.mem_cons, List.not_mem_nil, or_false] at hb; subst hb; exact t2⟩⟩
  clear hb0 hb1 hb2 hb3 hb4 s1 s2 s3 s4 s5 r0 r1 r2 r3 r4 t0 t1 t2 t3
  go_enter Tryz.func40, Tryz.ntmps40
  go_wp2
  go_ret
  exact ⟨rfl, HX.out, HB.out⟩
def idL : List Lid := [⟨⟨#[66, 65]⟩, 2, 9, ⟨#[76, 72, 82]⟩⟩, ⟨⟨#[66, 65]⟩, 2, 9, ⟨#[67, 68, 71]⟩⟩, ⟨⟨#[65, 70]⟩, 7, 9, ⟨#[67, 68, 71]⟩⟩, ⟨⟨#[66, 65]⟩, 2, 8, ⟨#[76, 72, 82]⟩⟩, ⟨⟨#[66, 65]⟩, 11, 8, ⟨#[76, 72, 82]⟩⟩, ⟨⟨#[66, 65]⟩, 1, 9, ⟨#[74, 70, 75]⟩⟩]
abbrev id0 : Lid := ⟨⟨#[66, 65]⟩, 2, 9, ⟨#[76, 72, 82]⟩⟩
abbrev id1 : Lid := ⟨⟨#[66, 65]⟩, 2, 9, ⟨#[67, 68, 71]⟩⟩
set_option maxRecDepth 100000 in
set_option maxHeartbeats 4000000 in
theorem id0_any (w : World) : Calls Tryz.prog 18 #[.int .u8 0] w fun e w' => e = .returned (aggD id0) ∧ Below w.heap.size w w' := by
  have hb0 := bel_alloc w (.cells #[.string noB, .int .i64 0, .int .i64 0, .string noB] lidT)
  have hb1 := bel_alloc (w.alloc (.cells #[.string noB, .int .i64 0, .int .i64 0, .string noB] lidT)) (.cells #[.string ⟨#[66, 65]⟩, .int .i64 2, .int .i64 9, .string ⟨#[76, 72, 82]⟩, .string ⟨#[66, 65]⟩, .int .i64 2, .int .i64 9, .string ⟨#[67, 68, 71]⟩, .string ⟨#[65, 70]⟩, .int .i64 7, .int .i64 9, .string ⟨#[67, 68, 71]⟩, .string ⟨#[66, 65]⟩, .int .i64 2, .int .i64 8, .string ⟨#[76, 72, 82]⟩, .string ⟨#[66, 65]⟩, .int .i64 11, .int .i64 8, .string ⟨#[76, 72, 82]⟩, .string ⟨#[66, 65]⟩, .int .i64 1, .int .i64 9, .string ⟨#[74, 70, 75]⟩] lidT)
  have c0 := (cells_new (w.alloc (.cells #[.string noB, .int .i64 0, .int .i64 0, .string noB] lidT)) #[.string ⟨#[66, 65]⟩, .int .i64 2, .int .i64 9, .string ⟨#[76, 72, 82]⟩, .string ⟨#[66, 65]⟩, .int .i64 2, .int .i64 9, .string ⟨#[67, 68, 71]⟩, .string ⟨#[65, 70]⟩, .int .i64 7, .int .i64 9, .string ⟨#[67, 68, 71]⟩, .string ⟨#[66, 65]⟩, .int .i64 2, .int .i64 8, .string ⟨#[76, 72, 82]⟩, .string ⟨#[66, 65]⟩, .int .i64 11, .int .i64 8, .string ⟨#[76, 72, 82]⟩, .string ⟨#[66, 65]⟩, .int .i64 1, .int .i64 9, .string ⟨#[74, 70, 75]⟩] lidT 0).trans (show _ = some (Value.string ⟨#[66, 65]⟩) from rfl)
  have c1 := (cells_new (w.alloc (.cells #[.string noB, .int .i64 0, .int .i64 0, .string noB] lidT)) #[.string ⟨#[66, 65]⟩, .int .i64 2, .int .i64 9, .string ⟨#[76, 72, 82]⟩, .string ⟨#[66, 65]⟩, .int .i64 2, .int .i64 9, .string ⟨#[67, 68, 71]⟩, .string ⟨#[65, 70]⟩, .int .i64 7, .int .i64 9, .string ⟨#[67, 68, 71]⟩, .string ⟨#[66, 65]⟩, .int .i64 2, .int .i64 8, .string ⟨#[76, 72, 82]⟩, .string ⟨#[66, 65]⟩, .int .i64 11, .int .i64 8, .string ⟨#[76, 72, 82]⟩, .string ⟨#[66, 65]⟩, .int .i64 1, .int .i64 9, .string ⟨#[74, 70, 75]⟩] lidT 1).trans (show _ = some (Value.int .i64 2) from rfl)
  have c2 := (cells_new (w.alloc (.cells #[.string noB, .int .i64 0, .int .i64 0, .string noB] lidT)) #[.string ⟨#[66, 65]⟩, .int .i64 2, .int .i64 9, .string ⟨#[76, 72, 82]⟩, .string ⟨#[66, 65]⟩, .int .i64 2, .int .i64 9, .string ⟨#[67, 68, 71]⟩, .string ⟨#[65, 70]⟩, .int .i64 7, .int .i64 9, .string ⟨#[67, 68, 71]⟩, .string ⟨#[66, 65]⟩, .int .i64 2, .int .i64 8, .string ⟨#[76, 72, 82]⟩, .string ⟨#[66, 65]⟩, .int .i64 11, .int .i64 8, .string ⟨#[76, 72, 82]⟩, .string ⟨#[66, 65]⟩, .int .i64 1, .int .i64 9, .string ⟨#[74, 70, 75]⟩] lidT 2).trans (show _ = some (Value.int .i64 9) from rfl)
  have c3 := (cells_new (w.alloc (.cells #[.string noB, .int .i64 0, .int .i64 0, .string noB] lidT)) #[.string ⟨#[66, 65]⟩, .int .i64 2, .int .i64 9, .string ⟨#[76, 72, 82]⟩, .string ⟨#[66, 65]⟩, .int .i64 2, .int .i64 9, .string ⟨#[67, 68, 71]⟩, .string ⟨#[65, 70]⟩, .int .i64 7, .int .i64 9, .string ⟨#[67, 68, 71]⟩, .string ⟨#[66, 65]⟩, .int .i64 2, .int .i64 8, .string ⟨#[76, 72, 82]⟩, .string ⟨#[66, 65]⟩, .int .i64 11, .int .i64 8, .string ⟨#[76, 72, 82]⟩, .string ⟨#[66, 65]⟩, .int .i64 1, .int .i64 9, .string ⟨#[74, 70, 75]⟩] lidT 3).trans (show _ = some (Value.string ⟨#[76, 72, 82]⟩) from rfl)
  rw [World.size_alloc] at c0 c1 c2 c3
  have hz := heap_alloc_new w (.cells #[.string noB, .int .i64 0, .int .i64 0, .string noB] lidT)
  have hz1 := (hb1.block _ (lt_of_cell2 hz)).trans hz
  have HB := Lib.hid (hb0.trans (hb1.mono hb0.size))
  have HZ := Lib.hid hz1
  have y0 := cell_of_row _ _ 0 _ _ (0, 0) hz1
  have y1 := cell_of_row _ _ 1 _ _ (0, 0) hz1
  have y2 := cell_of_row _ _ 2 _ _ (0, 0) hz1
  have y3 := cell_of_row _ _ 3 _ _ (0, 0) hz1
  have f0 := frozen_of_row _ _ 0 _ _ hz1
  have f1 := frozen_of_row _ _ 1 _ _ hz1
  have f2 := frozen_of_row _ _ 2 _ _ hz1
  have f3 := frozen_of_row _ _ 3 _ _ hz1
  clear hb0 hb1 hz hz1
  go_enter Tryz.func18, Tryz.ntmps18
  go_upto_region 2 with fail
  generalize (w.alloc (.cells #[.string noB, .int .i64 0, .int .i64 0, .string noB] lidT)).alloc (.cells #[.string ⟨#[66, 65]⟩, .int .i64 2, .int .i64 9, .string ⟨#[76, 72, 82]⟩, .string ⟨#[66, 65]⟩, .int .i64 2, .int .i64 9, .string ⟨#[67, 68, 71]⟩, .string ⟨#[65, 70]⟩, .int .i64 7, .int .i64 9, .string ⟨#[67, 68, 71]⟩, .string ⟨#[66, 65]⟩, .int .i64 2, .int .i64 8, .string ⟨#[76, 72, 82]⟩, .string ⟨#[66, 65]⟩, .int .i64 11, .int .i64 8, .string ⟨#[76, 72, 82]⟩, .string ⟨#[66, 65]⟩, .int .i64 1, .int .i64 9, .string ⟨#[74, 70, 75]⟩] lidT) = w5 at *
  go_wp2
  have hh := S4.heap HZ.out (.string ⟨#[66, 65]⟩) (.int .i64 2) (.int .i64 9) (.string ⟨#[76, 72, 82]⟩)
  have hbut := S4.but w5 w.heap.size (.string ⟨#[66, 65]⟩) (.int .i64 2) (.int .i64 9) (.string ⟨#[76, 72, 82]⟩)
  generalize (((w5.setCell ⟨w.heap.size, 0, none⟩ (.string ⟨#[66, 65]⟩)).setCell ⟨w.heap.size, 1, none⟩ (.int .i64 2)).setCell ⟨w.heap.size, 2, none⟩ (.int .i64 9)).setCell ⟨w.heap.size, 3, none⟩ (.string ⟨#[76, 72, 82]⟩) = w6 at *
  have d0 := cell_of_row _ _ 0 _ _ (0, 0) hh
  have d1 := cell_of_row _ _ 1 _ _ (0, 0) hh
  have d2 := cell_of_row _ _ 2 _ _ (0, 0) hh
  have d3 := cell_of_row _ _ 3 _ _ (0, 0) hh
  refine bodyPost_ret (v := aggD id0) ?_ rfl ⟨rfl, HB.out.trans (hbut.below HB.out.size (fun k hk e => by omega))⟩
  simp [results, Tryz.results18, go_sem, d0, d1, d2, d3]
set_option maxRecDepth 100000 in
set_option maxHeartbeats 4000000 in
theorem id1_any (w : World) : Calls Tryz.prog 18 #[.int .u8 1] w fun e w' => e = .returned (aggD id1) ∧ Below w.heap.size w w' := by
  have hb0 := bel_alloc w (.cells #[.string noB, .int .i64 0, .int .i64 0, .string noB] lidT)
  have hb1 := bel_alloc (w.alloc (.cells #[.string noB, .int .i64 0, .int .i64 0, .string noB] lidT)) (.cells #[.string ⟨#[66, 65]⟩, .int .i64 2, .int .i64 9, .string ⟨#[76, 72, 82]⟩, .string ⟨#[66, 65]⟩, .int .i64 2, .int .i64 9, .string ⟨#[67, 68, 71]⟩, .string ⟨#[65, 70]⟩, .int .i64 7, .int .i64 9, .string ⟨#[67, 68, 71]⟩, .string ⟨#[66, 65]⟩, .int .i64 2, .int .i64 8, .string ⟨#[76, 72, 82]⟩, .string ⟨#[66, 65]⟩, .int .i64 11, .int .i64 8, .string ⟨#[76, 72, 82]⟩, .string ⟨#[66, 65]⟩, .int .i64 1, .int .i64 9, .string ⟨#[74, 70, 75]⟩] lidT)
  have c0 := (cells_new (w.alloc (.cells #[.string noB, .int .i64 0, .int .i64 0, .string noB] lidT)) #[.string ⟨#[66, 65]⟩, .int .i64 2, .int .i64 9, .string ⟨#[76, 72, 82]⟩, .string ⟨#[66, 65]⟩, .int .i64 2, .int .i64 9, .string ⟨#[67, 68, 71]⟩, .string ⟨#[65, 70]⟩, .int .i64 7, .int .i64 9, .string ⟨#[67, 68, 71]⟩, .string ⟨#[66, 65]⟩, .int .i64 2, .int .i64 8, .string ⟨#[76, 72, 82]⟩, .string ⟨#[66, 65]⟩, .int .i64 11, .int .i64 8, .string ⟨#[76, 72, 82]⟩, .string ⟨#[66, 65]⟩, .int .i64 1, .int .i64 9, .string ⟨#[74, 70, 75]⟩] lidT 4).trans (show _ = some (Value.string ⟨#[66, 65]⟩) from rfl)
  have c1 := (cells_new (w.alloc (.cells #[.string noB, .int .i64 0, .int .i64 0, .string noB] lidT)) #[.string ⟨#[66, 65]⟩, .int .i64 2, .int .i64 9, .string ⟨#[76, 72, 82]⟩, .string ⟨#[66, 65]⟩, .int .i64 2, .int .i64 9, .string ⟨#[67, 68, 71]⟩, .string ⟨#[65, 70]⟩, .int .i64 7, .int .i64 9, .string ⟨#[67, 68, 71]⟩, .string ⟨#[66, 65]⟩, .int .i64 2, .int .i64 8, .string ⟨#[76, 72, 82]⟩, .string ⟨#[66, 65]⟩, .int .i64 11, .int .i64 8, .string ⟨#[76, 72, 82]⟩, .string ⟨#[66, 65]⟩, .int .i64 1, .int .i64 9, .string ⟨#[74, 70, 75]⟩] lidT 5).trans (show _ = some (Value.int .i64 2) from rfl)
  have c2 := (cells_new (w.alloc (.cells #[.string noB, .int .i64 0, .int .i64 0, .string noB] lidT)) #[.string ⟨#[66, 65]⟩, .int .i64 2, .int .i64 9, .string ⟨#[76, 72, 82]⟩, .string ⟨#[66, 65]⟩, .int .i64 2, .int .i64 9, .string ⟨#[67, 68, 71]⟩, .string ⟨#[65, 70]⟩, .int .i64 7, .int .i64 9, .string ⟨#[67, 68, 71]⟩, .string ⟨#[66, 65]⟩, .int .i64 2, .int .i64 8, .string ⟨#[76, 72, 82]⟩, .string ⟨#[66, 65]⟩, .int .i64 11, .int .i64 8, .string ⟨#[76, 72, 82]⟩, .string ⟨#[66, 65]⟩, .int .i64 1, .int .i64 9, .string ⟨#[74, 70, 75]⟩] lidT 6).trans (show _ = some (Value.int .i64 9) from rfl)
  have c3 := (cells_new (w.alloc (.cells #[.string noB, .int .i64 0, .int .i64 0, .string noB] lidT)) #[.string ⟨#[66, 65]⟩, .int .i64 2, .int .i64 9, .string ⟨#[76, 72, 82]⟩, .string ⟨#[66, 65]⟩, .int .i64 2, .int .i64 9, .string ⟨#[67, 68, 71]⟩, .string ⟨#[65, 70]⟩, .int .i64 7, .int .i64 9, .string ⟨#[67, 68, 71]⟩, .string ⟨#[66, 65]⟩, .int .i64 2, .int .i64 8, .string ⟨#[76, 72, 82]⟩, .string ⟨#[66, 65]⟩, .int .i64 11, .int .i64 8, .string ⟨#[76, 72, 82]⟩, .string ⟨#[66, 65]⟩, .int .i64 1, .int .i64 9, .string ⟨#[74, 70, 75]⟩] lidT 7).trans (show _ = some (Value.string ⟨#[67, 68, 71]⟩) from rfl)
  rw [World.size_alloc] at c0 c1 c2 c3
  have hz := heap_alloc_new w (.cells #[.string noB, .int .i64 0, .int .i64 0, .string noB] lidT)
  have hz1 := (hb1.block _ (lt_of_cell2 hz)).trans hz
  have HB := Lib.hid (hb0.trans (hb1.mono hb0.size))
  have HZ := Lib.hid hz1
  have y0 := cell_of_row _ _ 0 _ _ (0, 0) hz1
  have y1 := cell_of_row _ _ 1 _ _ (0, 0) hz1
  have y2 := cell_of_row _ _ 2 _ _ (0, 0) hz1
  have y3 := cell_of_row _ _ 3 _ _ (0, 0) hz1
  have f0 := frozen_of_row _ _ 0 _ _ hz1
  have f1 := frozen_of_row _ _ 1 _ _ hz1
  have f2 := frozen_of_row _ _ 2 _ _ hz1
  have f3 := frozen_of_row _ _ 3 _ _ hz1
  clear hb0 hb1 hz hz1
  go_enter Tryz.func18, Tryz.ntmps18
  go_upto_region 2 with fail
  generalize (w.alloc (.cells #[.string noB, .int .i64 0, .int .i64 0, .string noB] lidT)).alloc (.cells #[.string ⟨#[66, 65]⟩, .int .i64 2, .int .i64 9, .string ⟨#[76, 72, 82]⟩, .string ⟨#[66, 65]⟩, .int .i64 2, .int .i64 9, .string ⟨#[67, 68, 71]⟩, .string ⟨#[65, 70]⟩, .int .i64 7, .int .i64 9, .string ⟨#[67, 68, 71]⟩, .string ⟨#[66, 65]⟩, .int .i64 2, .int .i64 8, .string ⟨#[76, 72, 82]⟩, .string ⟨#[66, 65]⟩, .int .i64 11, .int .i64 8, .string ⟨#[76, 72, 82]⟩, .string ⟨#[66, 65]⟩, .int .i64 1, .int .i64 9, .string ⟨#[74, 70, 75]⟩] lidT) = w5 at *
  go_wp2
  have hh := S4.heap HZ.out (.string ⟨#[66, 65]⟩) (.int .i64 2) (.int .i64 9) (.string ⟨#[67, 68, 71]⟩)
  have hbut := S4.but w5 w.heap.size (.string ⟨#[66, 65]⟩) (.int .i64 2) (.int .i64 9) (.string ⟨#[67, 68, 71]⟩)
  generalize (((w5.setCell ⟨w.heap.size, 0, none⟩ (.string ⟨#[66, 65]⟩)).setCell ⟨w.heap.size, 1, none⟩ (.int .i64 2)).setCell ⟨w.heap.size, 2, none⟩ (.int .i64 9)).setCell ⟨w.heap.size, 3, none⟩ (.string ⟨#[67, 68, 71]⟩) = w6 at *
  have d0 := cell_of_row _ _ 0 _ _ (0, 0) hh
  have d1 := cell_of_row _ _ 1 _ _ (0, 0) hh
  have d2 := cell_of_row _ _ 2 _ _ (0, 0) hh
  have d3 := cell_of_row _ _ 3 _ _ (0, 0) hh
  refine bodyPost_ret (v := aggD id1) ?_ rfl ⟨rfl, HB.out.trans (hbut.below HB.out.size (fun k hk e => by omega))⟩
  simp [results, Tryz.results18, go_sem, d0, d1, d2, d3]
end Go.Proofs.YtkghpapbifijcaaGreatDoor
