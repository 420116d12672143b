/- The chapter's examples. -/
import Derived.Test.YtnakdacnfbgpnaaNesI
namespace Go.Proofs.Ytnakdacnfbgpnaa
open Go.RowKit Go.Shelf
set_option linter.unusedSimpArgs false
set_option linter.unusedVariables false

def exY : ByteArray := ⟨#[89]⟩
def exM : ByteArray := ⟨#[77]⟩
def exC (A : Option Addr) : Cb := ⟨exY, 10, 1, A, 2, [⟨exY, 3⟩, ⟨exM, 3⟩]⟩
theorem exC_lim (A : Option Addr) : LimP (exC A) := by
  refine ⟨rfl, by show 2 ≤ 30; omega, fun x hx => ?_⟩
  simp only [exC, List.mem_cons, List.not_mem_nil, or_false] at hx
  rcases hx with rfl | rfl <;> (dsimp only; omega)
theorem ex1 (A : Option Addr) : selE (exC A) [4, 5] 1 2 = 0 := by rfl
theorem ex2 (A : Option Addr) : selL (exC A) [4, 5] 1 2 = [4, 7] := by rfl
theorem ex3 (A : Option Addr) : selE (exC A) [4, 5] 1 3 = 17 := by rfl
theorem ex4 (A : Option Addr) : opL (exC A) [0, 8] = [3, 0] := by rfl
theorem ex5 (A : Option Addr) : exP (exC A) [4, 9] = 2 := by rfl
theorem ex6 (A : Option Addr) : fitB (exC A) [4, 7] = true := by rfl
theorem int_new (W : World) (x y : Int) : IntR (W.alloc (.cells #[.int .i64 x, .int .i64 y] 3)) (.slice (some ⟨W.heap.size, 0, none⟩) 2 2) [x, y] := RowL.new W [x, y] 3 (enc := encI) (sz := 1) (fun x => rfl) (cs := #[.int .i64 x, .int .i64 y]) rfl 2
set_option maxRecDepth 100000 in
set_option maxHeartbeats 4000000 in
theorem awake_any (w : World) : Calls Try.prog 9 #[] w fun e w' => e = .returned (.bool true) ∧ Below w.heap.size w w' := by
  have h1 := bel_alloc w (.cells #[.string ⟨#[89]⟩, .int .i64 3, .string ⟨#[77]⟩, .int .i64 3] clT)
  have h2 := bel_alloc (w.alloc (.cells #[.string ⟨#[89]⟩, .int .i64 3, .string ⟨#[77]⟩, .int .i64 3] clT)) (.cells #[.string ⟨#[89]⟩, .int .i64 10, .int .i64 1, .slice (some ⟨w.heap.size, 0, none⟩) 2 2] cbT)
  have hB0 := h1.trans (h2.mono h1.size)
  have hC : CbAt ((w.alloc (.cells #[.string ⟨#[89]⟩, .int .i64 3, .string ⟨#[77]⟩, .int .i64 3] clT)).alloc (.cells #[.string ⟨#[89]⟩, .int .i64 10, .int .i64 1, .slice (some ⟨w.heap.size, 0, none⟩) 2 2] cbT)) (exC (some ⟨w.heap.size, 0, none⟩)) := RowL.more (RowL.new w [⟨exY, 3⟩, ⟨exM, 3⟩] clT (enc := encCl) (sz := 2) (fun x => rfl) (cs := #[.string ⟨#[89]⟩, .int .i64 3, .string ⟨#[77]⟩, .int .i64 3]) rfl 2) h2
  have c0 := (cells_new (w.alloc (.cells #[.string ⟨#[89]⟩, .int .i64 3, .string ⟨#[77]⟩, .int .i64 3] clT)) #[.string ⟨#[89]⟩, .int .i64 10, .int .i64 1, .slice (some ⟨w.heap.size, 0, none⟩) 2 2] cbT 0).trans (show _ = some (Value.string ⟨#[89]⟩) from rfl)
  have c1 := (cells_new (w.alloc (.cells #[.string ⟨#[89]⟩, .int .i64 3, .string ⟨#[77]⟩, .int .i64 3] clT)) #[.string ⟨#[89]⟩, .int .i64 10, .int .i64 1, .slice (some ⟨w.heap.size, 0, none⟩) 2 2] cbT 1).trans (show _ = some (Value.int .i64 10) from rfl)
  have c2 := (cells_new (w.alloc (.cells #[.string ⟨#[89]⟩, .int .i64 3, .string ⟨#[77]⟩, .int .i64 3] clT)) #[.string ⟨#[89]⟩, .int .i64 10, .int .i64 1, .slice (some ⟨w.heap.size, 0, none⟩) 2 2] cbT 2).trans (show _ = some (Value.int .i64 1) from rfl)
  have c3 := (cells_new (w.alloc (.cells #[.string ⟨#[89]⟩, .int .i64 3, .string ⟨#[77]⟩, .int .i64 3] clT)) #[.string ⟨#[89]⟩, .int .i64 10, .int .i64 1, .slice (some ⟨w.heap.size, 0, none⟩) 2 2] cbT 3).trans (show _ = some (Value.slice (some ⟨w.heap.size, 0, none⟩) 2 2) from rfl)
  rw [World.size_alloc] at c0 c1 c2 c3
  obtain ⟨B, hB⟩ : ∃ B, B = w.heap.size := ⟨_, rfl⟩
  rw [← hB] at c0 c1 c2 c3
  have HBB := Lib.hid hB0
  rw [← hB] at hC h2 hB0 HBB
  clear h1 h2 hB0
  go_enter Try.func9, Try.ntmps9
  go_upto_region 2 with fail
  rw [← hB]
  have HBE := Lib.hid hB
  clear hB
  generalize (w.alloc (.cells #[.string ⟨#[89]⟩, .int .i64 3, .string ⟨#[77]⟩, .int .i64 3] clT)).alloc (.cells #[.string ⟨#[89]⟩, .int .i64 10, .int .i64 1, .slice (some ⟨B, 0, none⟩) 2 2] cbT) = w5 at *
  have HC := Lib.hid hC
  clear hC
  have Q0 := Lib.hid (fun W (h : SW w5 W) => bel_get c0 _ h)
  have Q1 := Lib.hid (fun W (h : SW w5 W) => bel_get c1 _ h)
  have Q2 := Lib.hid (fun W (h : SW w5 W) => bel_get c2 _ h)
  have Q3 := Lib.hid (fun W (h : SW w5 W) => bel_get c3 _ h)
  have KS : Hid (∀ W, SW w5 W → Calls Try.prog 17 #[.agg #[.string ⟨#[89]⟩, .int .i64 10, .int .i64 1, .slice (some ⟨B, 0, none⟩) 2 2], .slice (some ⟨W.heap.size, 0, none⟩) 2 2, .int .i64 1, .int .i64 2] (W.alloc (.cells #[.int .i64 4, .int .i64 5] 3)) fun e w' => ∃ v, e = .returned (.tuple #[v, .int .i64 0]) ∧ IntR w' v [4, 7] ∧ SW w5 w') := Lib.hid (fun W h => by
    have hb := bel_alloc W (.cells #[.int .i64 4, .int .i64 5] 3)
    have h' : SW w5 (W.alloc (.cells #[.int .i64 4, .int .i64 5] 3)) := h.trans (hb.mono h.size)
    have k := sell_any (exC (some ⟨B, 0, none⟩)) (some ⟨W.heap.size, 0, none⟩) 2 [4, 5] 1 2 (W.alloc (.cells #[.int .i64 4, .int .i64 5] 3)) (HC.out.more h') (exC_lim _) (by show 2 ≤ 1000; omega) (int_new W 4 5)
    rw [ex1, ex2] at k
    exact k.mono (by rintro e w' ⟨v, rfl, hv, hb'⟩; exact ⟨v, rfl, hv, h'.trans (hb'.mono h'.size)⟩))
  have KT : Hid (∀ W, SW w5 W → Calls Try.prog 17 #[.agg #[.string ⟨#[89]⟩, .int .i64 10, .int .i64 1, .slice (some ⟨B, 0, none⟩) 2 2], .slice (some ⟨W.heap.size, 0, none⟩) 2 2, .int .i64 1, .int .i64 3] (W.alloc (.cells #[.int .i64 4, .int .i64 5] 3)) fun e w' => ∃ v, e = .returned (.tuple #[v, .int .i64 17]) ∧ SW W w') := Lib.hid (fun W h => by
    have hb := bel_alloc W (.cells #[.int .i64 4, .int .i64 5] 3)
    have h' : SW w5 (W.alloc (.cells #[.int .i64 4, .int .i64 5] 3)) := h.trans (hb.mono h.size)
    have k := sell_any (exC (some ⟨B, 0, none⟩)) (some ⟨W.heap.size, 0, none⟩) 2 [4, 5] 1 3 (W.alloc (.cells #[.int .i64 4, .int .i64 5] 3)) (HC.out.more h') (exC_lim _) (by show 2 ≤ 1000; omega) (int_new W 4 5)
    rw [ex3] at k
    exact k.mono (by rintro e w' ⟨v, rfl, hv, hb'⟩; exact ⟨v, rfl, hb.trans (hb'.mono hb.size)⟩))
  have KO : Hid (∀ W, SW w5 W → Calls Try.prog 11 #[.agg #[.string ⟨#[89]⟩, .int .i64 10, .int .i64 1, .slice (some ⟨B, 0, none⟩) 2 2], .slice (some ⟨W.heap.size, 0, none⟩) 2 2] (W.alloc (.cells #[.int .i64 0, .int .i64 8] 3)) fun e w' => ∃ v, e = .returned v ∧ IntR w' v [3, 0] ∧ SW W w') := Lib.hid (fun W h => by
    have hb := bel_alloc W (.cells #[.int .i64 0, .int .i64 8] 3)
    have h' : SW w5 (W.alloc (.cells #[.int .i64 0, .int .i64 8] 3)) := h.trans (hb.mono h.size)
    have k := open_any (exC (some ⟨B, 0, none⟩)) (some ⟨W.heap.size, 0, none⟩) 2 [0, 8] (W.alloc (.cells #[.int .i64 0, .int .i64 8] 3)) (HC.out.more h') (exC_lim _) (by show 2 ≤ 1000; omega) (int_new W 0 8)
    rw [ex4] at k
    exact k.mono (by rintro e w' ⟨v, rfl, hv, hb'⟩; exact ⟨v, rfl, hv, hb.trans (hb'.mono hb.size)⟩))
  have KX : Hid (∀ W, SW w5 W → Calls Try.prog 15 #[.agg #[.string ⟨#[89]⟩, .int .i64 10, .int .i64 1, .slice (some ⟨B, 0, none⟩) 2 2], .slice (some ⟨W.heap.size, 0, none⟩) 2 2] (W.alloc (.cells #[.int .i64 4, .int .i64 9] 3)) fun e w' => e = .returned (.int .i64 2) ∧ SW W w') := Lib.hid (fun W h => by
    have hb := bel_alloc W (.cells #[.int .i64 4, .int .i64 9] 3)
    have h' : SW w5 (W.alloc (.cells #[.int .i64 4, .int .i64 9] 3)) := h.trans (hb.mono h.size)
    have k := excess_any (exC (some ⟨B, 0, none⟩)) (some ⟨W.heap.size, 0, none⟩) 2 [4, 9] (W.alloc (.cells #[.int .i64 4, .int .i64 9] 3)) (HC.out.more h') (exC_lim _) (by show 2 ≤ 1000; omega) (int_new W 4 9)
    rw [ex5] at k
    exact k.mono (by rintro e w' ⟨rfl, hb'⟩; exact ⟨rfl, hb.trans (hb'.mono hb.size)⟩))
  have KF : Hid (∀ A c W, SW w5 W → IntR W (.slice A 2 c) [4, 7] → Calls Try.prog 13 #[.agg #[.string ⟨#[89]⟩, .int .i64 10, .int .i64 1, .slice (some ⟨B, 0, none⟩) 2 2], .slice A 2 c] W fun e w' => e = .returned (.bool true) ∧ SW W w') := Lib.hid (fun A c W h hv => by
    have k := fits_any (exC (some ⟨B, 0, none⟩)) A c [4, 7] W (HC.out.more h) (exC_lim _) (by show 2 ≤ 1000; omega) hv
    rw [ex6] at k
    exact k)
  have KE1 : Hid (∀ (W : World) (v : Value), SW w5 W → IntR W v [3, 0] → Calls Try.prog 10 #[v, .slice (some ⟨W.heap.size, 0, none⟩) 2 2] (W.alloc (.cells #[.int .i64 3, .int .i64 0] 3)) fun e w' => e = .returned (.bool true) ∧ SW W w') := Lib.hid (fun W v h hv => by
    have hb := bel_alloc W (.cells #[.int .i64 3, .int .i64 0] 3)
    exact (sameI_any v _ [3, 0] _ (hv.more hb) (int_new W 3 0) (by show 2 ≤ 1000000; omega)).mono (by rintro e w' ⟨rfl, hb'⟩; exact ⟨rfl, hb.trans (hb'.mono hb.size)⟩))
  have KE2 : Hid (∀ (W : World) (v : Value), SW w5 W → IntR W v [4, 7] → Calls Try.prog 10 #[v, .slice (some ⟨W.heap.size, 0, none⟩) 2 2] (W.alloc (.cells #[.int .i64 4, .int .i64 7] 3)) fun e w' => e = .returned (.bool true) ∧ SW W w') := Lib.hid (fun W v h hv => by
    have hb := bel_alloc W (.cells #[.int .i64 4, .int .i64 7] 3)
    exact (sameI_any v _ [4, 7] _ (hv.more hb) (int_new W 4 7) (by show 2 ≤ 1000000; omega)).mono (by rintro e w' ⟨rfl, hb'⟩; exact ⟨rfl, hb.trans (hb'.mono hb.size)⟩))
  go_upto_region 3 with (go_at_call 17; refine (KS.out _ (Below.refl _ _)).mono ?_; rintro e w6 ⟨v1, rfl, hv1, hS6⟩)
  obtain ⟨A1, k1, rfl, _⟩ := id hv1
  clear c0 c1 c2 c3 KS
  have c0 := Q0.out _ hS6
  have c1 := Q1.out _ hS6
  have c2 := Q2.out _ hS6
  have c3 := Q3.out _ hS6
  go_upto_region 4 with (go_at_call 17; refine (KT.out _ hS6).mono ?_; rintro e w7 ⟨v2, rfl, hT7⟩)
  have hS7 : SW w5 w7 := Below.trans hS6 (Below.mono hT7 hS6.size)
  have hv1 := hv1.more hT7
  clear c0 c1 c2 c3 KT hT7 hS6
  have c0 := Q0.out _ hS7
  have c1 := Q1.out _ hS7
  have c2 := Q2.out _ hS7
  have c3 := Q3.out _ hS7
  go_wp2_with (first
    | (go_at_call 11; refine (KO.out _ hS7).mono ?_; rintro e w8 ⟨v3, rfl, hv3, hT8⟩; have hS8 := Below.trans hS7 (Below.mono hT8 hS7.size); have hv1 := hv1.more hT8; clear c0 c1 c2 c3 hT8)
    | (go_at_call 10; refine (KE1.out _ _ hS8 hv3).mono ?_; rintro e w9 ⟨rfl, hT9⟩; have hS9 := Below.trans hS8 (Below.mono hT9 hS8.size); have hv1 := hv1.more hT9; clear hT9 hv3)
    | (go_at_call 10; refine (KE2.out _ _ hS9 hv1).mono ?_; rintro e w10 ⟨rfl, hT10⟩; have hS10 := Below.trans hS9 (Below.mono hT10 hS9.size); have hv1 := hv1.more hT10; clear hT10; have c0 := Q0.out _ hS10; have c1 := Q1.out _ hS10; have c2 := Q2.out _ hS10; have c3 := Q3.out _ hS10)
    | (go_at_call 15; refine (KX.out _ hS10).mono ?_; rintro e w11 ⟨rfl, hT11⟩; have hS11 := Below.trans hS10 (Below.mono hT11 hS10.size); have hv1 := hv1.more hT11; clear hT11 c0 c1 c2 c3; have c0 := Q0.out _ hS11; have c1 := Q1.out _ hS11; have c2 := Q2.out _ hS11; have c3 := Q3.out _ hS11)
    | (go_at_call 13; refine (KF.out _ _ _ hS11 hv1).mono ?_; rintro e w12 ⟨rfl, hT12⟩))
  go_ret
  refine ⟨rfl, ?_⟩
  rw [← HBE.out]
  exact HBB.out.trans (Below.mono (Below.trans hS11 (Below.mono hT12 hS11.size)) (by rw [HBE.out]; exact HBB.out.size))
end Go.Proofs.Ytnakdacnfbgpnaa
