/- Walks of digits and Print. -/
import Derived.Test.YtnfdmdhpbaifiaaDoorPerB
import Derived.Test.YtnfdmdhpbaifiaaDoorCalE
import Derived.Laws.Concat
namespace Go.Proofs.YtnfdmdhpbaifiaaDoor
open Go.RowKit
set_option linter.unusedSimpArgs false
set_option linter.unusedVariables false

theorem byteT : ByteT Tryd.prog 56 5 := ⟨Tryd.underlying56, Tryd.underlying5, by kernel_rfl⟩
/-- the digits of the weekdays, of the first k -/
def digTo (d k : Nat) : List UInt8 := ((List.range k).filter fun i => d.testBit i).map fun i => UInt8.ofNat (49 + i)
def digL (d : Int) : List UInt8 := digTo d.toNat 7
theorem digTo_hit (d k : Nat) (h : d.testBit k = true) : digTo d (k + 1) = digTo d k ++ [UInt8.ofNat (49 + k)] := by
  rw [digTo, List.range_succ, List.filter_append]; simp [digTo, h]
theorem digTo_miss (d k : Nat) (h : d.testBit k = false) : digTo d (k + 1) = digTo d k := by
  rw [digTo, List.range_succ, List.filter_append]; simp [digTo, h]
theorem digTo_len (d k : Nat) : (digTo d k).length ≤ k := by
  rw [digTo, List.length_map]
  exact Nat.le_trans (List.length_filter_le _ _) (by simp)
theorem dig_cells (k : Nat) (h : k < 7) : (Lib.byteCells [UInt8.ofNat (49 + k)]).toArray = #[.int .u8 (49 + k)] := by
  have : k = 0 ∨ k = 1 ∨ k = 2 ∨ k = 3 ∨ k = 4 ∨ k = 5 ∨ k = 6 := by omega
  rcases this with rfl | rfl | rfl | rfl | rfl | rfl | rfl <;> rfl

set_option maxRecDepth 100000 in
set_option maxHeartbeats 2000000 in
theorem pdigits_any (f t d : Int) (w : World) (h0 : 0 ≤ d) (h1 : d ≤ 127) : Calls Tryd.prog 20 #[encQ (f, t, d)] w fun e w' => e = .returned (.string ⟨(digL d).toArray⟩) ∧ Below w.heap.size w w' := by
  have hB : Box3 w w.heap.size (f, t, d) (w.alloc (.cells #[.int .i64 f, .int .i64 t, .int .i64 d] 23)) := Box3.new w (f, t, d) _
  have hsz : (w.alloc (.cells #[.int .i64 f, .int .i64 t, .int .i64 d] 23)).heap.size = w.heap.size + 1 := by simp
  go_enter Tryd.func20, Tryd.ntmps20
  go_wp2
  generalize w.alloc (.cells #[.int .i64 f, .int .i64 t, .int .i64 d] 23) = w1 at *
  go_loopw [3, 5] (fun vb vi wr => ∃ k : Nat, k ≤ 7 ∧ vi = .int .i64 k ∧ Buf 5 w1.heap.size w1 wr vb (digTo d.toNat k)) (fun _ vi _ => 7 - (intOf vi).toNat)
  case atStart => exact ⟨0, by omega, rfl, Buf.nil (Below.refl _ _) (Nat.le_refl _)⟩
  case round =>
    obtain ⟨k, hk, rfl, hO⟩ := hrel
    by_cases hlt : k < 7
    · have hB1 := hB.more hO.bel
      obtain ⟨c0, c1, c2, c3⟩ := hB1
      have i1 : (k : Int) < 7 := by omega
      have CH := Lib.hid (fun W => hasWd_any f t d k W h0 h1 hlt)
      have hl := digTo_len d.toNat k
      cases hw : d.toNat.testBit k
      · have HN := Lib.hid (digTo_miss d.toNat k hw)
        rw [hw] at CH
        clear hw
        go_wp2_with (go_at_call 36; refine (CH.out _).mono ?_; rintro e w2 ⟨rfl, hb⟩)
        go_roundw
        case rel => exact ⟨k + 1, by omega, by go_num, by rw [HN.out]; exact hO.more hb⟩
        case measure => simp [intOf]; omega
      · have HN := Lib.hid (digTo_hit d.toNat k hw)
        have HC := Lib.hid (dig_cells k hlt)
        rw [hw] at CH
        clear hw
        go_wp2_with (first | (go_at_call 36; refine (CH.out _).mono ?_; rintro e w2 ⟨rfl, hb⟩; have hO2 := hO.more hb) | (refine wpList_app byteT rfl _ _ rfl _ (digTo d.toNat k) rfl (hO2.alloc _) _ [UInt8.ofNat (49 + k)] 1 _ rfl rfl (by omega) HC.out.symm (heap_alloc_new _ _) (by omega) ?_; intro v' w3 hO3))
        go_roundw
        case rel => exact ⟨k + 1, by omega, by go_num, by rw [HN.out]; exact hO3⟩
        case measure => simp [intOf]; omega
    · have e : k = 7 := by omega
      subst e
      have HT := hO.text byteT Tryd.underlying9
      go_wp2
      go_ret
      exact ⟨rfl, hB.2.2.2.trans (hO.bel.mono (by omega))⟩

theorem print_len10 (n : Int) : (printL n).length ≤ 10 := by
  unfold printL
  split
  · simp [dateL, twoL]
  · simp
/-- a period as text -/
def perL (p : Per) : List UInt8 := if okQ p then printL p.1 ++ [47] ++ printL p.2.1 ++ [47] ++ digL p.2.2 else []
set_option maxHeartbeats 2000000 in
theorem pprint_any (f t d : Int) (w : World) : Calls Tryd.prog 7 #[encQ (f, t, d)] w fun e w' => e = .returned (.string ⟨(perL (f, t, d)).toArray⟩) ∧ Below w.heap.size w w' := by
  have hb := bel_alloc w (.cells #[.int .i64 f, .int .i64 t, .int .i64 d] 23)
  cases h : okQ (f, t, d)
  · have HR : Hid (perL (f, t, d) = []) := Lib.hid (by simp [perL, h])
    have CV := Lib.hid (fun W => isValid_any f t d W)
    rw [h] at CV
    clear h
    go_enter Tryd.func7, Tryd.ntmps7
    go_wp2_with (go_at_call 18; refine (CV.out _).mono ?_; rintro e w1 ⟨rfl, hb1⟩)
    go_ret
    exact ⟨by rw [HR.out]; rfl, hb.trans (hb1.mono hb.size)⟩
  · have hq := okQ_yes h
    have HR : Hid (perL (f, t, d) = printL f ++ [47] ++ printL t ++ [47] ++ digL d) := Lib.hid (by rw [perL, if_pos h])
    have CV := Lib.hid (fun W => isValid_any f t d W)
    rw [h] at CV
    have hB0 : Box3 w w.heap.size (f, t, d) (w.alloc (.cells #[.int .i64 f, .int .i64 t, .int .i64 d] 23)) := Box3.new w (f, t, d) _
    have C1 := Lib.hid (Box3.call (w := w) (B := w.heap.size) (p := (f, t, d)) (fun W => print_any f W))
    have C2 := Lib.hid (Box3.call (w := w) (B := w.heap.size) (p := (f, t, d)) (fun W => print_any t W))
    have C3 := Lib.hid (Box3.call (w := w) (B := w.heap.size) (p := (f, t, d)) (fun W => pdigits_any f t d W (by have := hq.2.2.2.2.1; simp at this; omega) hq.2.2.2.2.2))
    have f0 : ∀ x : Wd (Box3 w w.heap.size (f, t, d)), x.w.cell? ⟨w.heap.size, 0, none⟩ = some (.int .i64 f) := fun x => x.ok.1
    have f1 : ∀ x : Wd (Box3 w w.heap.size (f, t, d)), x.w.cell? ⟨w.heap.size, 1, none⟩ = some (.int .i64 t) := fun x => x.ok.2.1
    have f2 : ∀ x : Wd (Box3 w w.heap.size (f, t, d)), x.w.cell? ⟨w.heap.size, 2, none⟩ = some (.int .i64 d) := fun x => x.ok.2.2.1
    clear h hq
    obtain ⟨s1, hs1⟩ : ∃ s : ByteArray, s = ⟨(printL f).toArray⟩ := ⟨_, rfl⟩
    obtain ⟨s2, hs2⟩ : ∃ s : ByteArray, s = ⟨(printL t).toArray⟩ := ⟨_, rfl⟩
    obtain ⟨s3, hs3⟩ : ∃ s : ByteArray, s = ⟨(digL d).toArray⟩ := ⟨_, rfl⟩
    rw [← hs1] at C1
    rw [← hs2] at C2
    rw [← hs3] at C3
    have HS : Hid ((((s1 ++ ⟨#[47]⟩) ++ s2) ++ ⟨#[47]⟩) ++ s3 = (⟨(printL f ++ [47] ++ printL t ++ [47] ++ digL d).toArray⟩ : ByteArray)) := Lib.hid (by
      rw [hs1, hs2, hs3]; simp only [← mk_app])
    have z1 : s1.size ≤ 10 := by rw [hs1]; exact print_len10 f
    have z2 : s2.size ≤ 10 := by rw [hs2]; exact print_len10 t
    have z3 : s3.size ≤ 7 := by rw [hs3]; exact digTo_len _ _
    clear hs1 hs2 hs3
    have A1 := fun W => run_string_add_sum (P := Tryd.prog) (w := W) s1 (⟨#[47]⟩ : ByteArray) (by show s1.size + 1 ≤ _; omega)
    have A2 := fun W => run_string_add_sum (P := Tryd.prog) (w := W) (s1 ++ ⟨#[47]⟩) s2 (by rw [ByteArray.size_append]; show s1.size + 1 + s2.size ≤ _; omega)
    have A3 := fun W => run_string_add_sum (P := Tryd.prog) (w := W) ((s1 ++ ⟨#[47]⟩) ++ s2) (⟨#[47]⟩ : ByteArray) (by rw [ByteArray.size_append, ByteArray.size_append]; show s1.size + 1 + s2.size + 1 ≤ _; omega)
    have A4 := fun W => run_string_add_sum (P := Tryd.prog) (w := W) (((s1 ++ ⟨#[47]⟩) ++ s2) ++ ⟨#[47]⟩) s3 (by rw [ByteArray.size_append, ByteArray.size_append, ByteArray.size_append]; show s1.size + 1 + s2.size + 1 + s3.size ≤ _; omega)
    go_enter Tryd.func7, Tryd.ntmps7
    go_wp2_with (go_at_call 18; refine (CV.out _).mono ?_; rintro e w1 ⟨rfl, hb1⟩)
    have hB1 := (hB0.more hb1).more (Below.refl _ _).drew
    have hNe : Nonempty (Wd (Box3 w w.heap.size (f, t, d))) := ⟨⟨_, hB1⟩⟩
    refine quietS (S := Box3 w w.heap.size (f, t, d)) (by kernel_rfl) (by kernel_rfl) (hB1) ?_
    repeat (first | go_big_quiet_skip | (go_big_quiet_want; go_big_quiet_op; first | go_big_quiet_on | go_big_quiet_call ((first | (go_at_call 19; first | (with_reducible exact quiet_S (C1.out _ (Wd.ok _))) | (with_reducible exact quiet_S (C2.out _ (Wd.ok _)))) | (go_at_call 20; exact quiet_S (C3.out _ (Wd.ok _)))))))
    refine wpQuiet_nil ?_
    rintro W ⟨⟨_, hW⟩, rfl⟩
    go_wp2
    go_ret
    exact ⟨by rw [HR.out, ← HS.out]; rfl, hW.2.2.2⟩

end Go.Proofs.YtnfdmdhpbaifiaaDoor
