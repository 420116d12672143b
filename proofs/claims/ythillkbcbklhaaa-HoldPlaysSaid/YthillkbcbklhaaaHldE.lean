/- Drop, Extend. -/
import Derived.Test.YthillkbcbklhaaaHldD
namespace Go.Proofs.Ythillkbcbklhaaa
open Go.RowKit Go.Shelf Go.Maps Go.MapKept
set_option linter.unusedSimpArgs false
set_option linter.unusedVariables false

theorem HldAt.to {w w' : World} {B mb n n' : Nat} {hs hs' : List Hd} (h : HldAt w B mb n hs) (hb : But w w' (fun k => k = mb)) (hm : MapI w' mb n' (gH hs')) (hsr : SrtH hs') (hsub : ∀ y ∈ hs', y ∈ hs) : HldAt w' B mb n' hs' :=
  ⟨but_cell hb h.box h.hB, hm, hsr, fun y hy => ⟨(h.ok y (hsub y hy)).1, (h.ok y (hsub y hy)).2.1.but hb (fun k e hk => hk e), (h.ok y (hsub y hy)).2.2⟩⟩
set_option maxRecDepth 100000 in
set_option maxHeartbeats 4000000 in
theorem drop_void (p : Option Addr) (i : Int) (w : World) (hv : VoidH w p) : Calls Try.prog 13 #[.pointer p, .int .i64 i] w fun e w' => e = .returned (.tuple #[zH, .int .i64 1]) ∧ Below w.heap.size w w' := by
  have hb := bel_alloc w (.cells #[.int .i64 0, .slice none 0 0, .string noB, .int .i64 0, .int .i64 0] hdT)
  have K := Lib.hid (isVoid_yes p _ (hv.more hb))
  clear hb hv
  go_enter Try.func13, Try.ntmps13
  go_wp2_with (go_at_call 25; (with_reducible refine K.out.mono ?_); rintro e w6 ⟨rfl, rfl⟩)
  refine bodyPost_ret (v := .tuple #[zH, .int .i64 1]) ?_ rfl ⟨rfl, bel_alloc w _⟩
  simp [results, Try.results13, go_sem]
set_option maxRecDepth 100000 in
set_option maxHeartbeats 8000000 in
theorem drop_any {B mb n : Nat} {hs : List Hd} (i : Int) (w : World) (hS : HldAt w B mb n hs) (hi : -9223372036854775808 ≤ i ∧ i ≤ 9223372036854775807) :
    Calls Try.prog 13 #[.pointer (some ⟨B, 0, none⟩), .int .i64 i] w fun e w' => e = .returned (.tuple #[((findH hs i).map aggH).getD zH, .int .i64 (dropE hs i)]) ∧ HldAt w' B mb n (dropH hs i) ∧ But w w' (fun k => k = mb) := by
  have hb := bel_alloc w (.cells #[.int .i64 0, .slice none 0 0, .string noB, .int .i64 0, .int .i64 0] hdT)
  have hS5 := hS.more hb
  have K0 := Lib.hid (isVoid_no B mb (w.alloc (.cells #[.int .i64 0, .slice none 0 0, .string noB, .int .i64 0, .int .i64 0] hdT)) hS5.box)
  have hm0 := hS.map.lt
  have HB := Lib.hid hb
  have HS := Lib.hid hS
  have HM0 := Lib.hid hm0
  have hlk := hS5.look hi
  have c0 := hS5.box
  unfold dropE
  clear hS hm0 hb
  cases hf : findH hs i with
  | none =>
    rw [hf] at hlk
    have hlk : (Instr.lookup hmT (.map (some mb)) (.int .i64 i) true).run Try.prog (w.alloc (.cells #[.int .i64 0, .slice none 0 0, .string noB, .int .i64 0, .int .i64 0] hdT)) = .ok (.tuple #[zH, .bool false]) (w.alloc (.cells #[.int .i64 0, .slice none 0 0, .string noB, .int .i64 0, .int .i64 0] hdT)) := hlk
    have HD : Hid (dropH hs i = hs) := Lib.hid (drop_none hf)
    rw [HD.out]
    show Calls _ _ _ _ fun e w' => e = .returned (.tuple #[zH, .int .i64 7]) ∧ HldAt w' B mb n hs ∧ But w w' (fun k => k = mb)
    clear hf hS5
    go_enter Try.func13, Try.ntmps13
    go_wp2_with (go_at_call 25; (with_reducible refine K0.out.mono ?_); rintro e w6 ⟨rfl, rfl⟩)
    have hbb := HB.out.trans ((bel_alloc (w.alloc (.cells #[.int .i64 0, .slice none 0 0, .string noB, .int .i64 0, .int .i64 0] hdT)) (.cells #[.int .i64 0, .slice none 0 0, .string noB, .int .i64 0, .int .i64 0] hdT)).mono HB.out.size)
    refine bodyPost_ret (v := .tuple #[zH, .int .i64 7]) ?_ rfl ⟨rfl, HS.out.more hbb, But.of_below hbb⟩
    simp [results, Try.results13, go_sem]
  | some y =>
    rw [hf] at hlk
    have hlk : (Instr.lookup hmT (.map (some mb)) (.int .i64 i) true).run Try.prog (w.alloc (.cells #[.int .i64 0, .slice none 0 0, .string noB, .int .i64 0, .int .i64 0] hdT)) = .ok (.tuple #[aggH y, .bool true]) (w.alloc (.cells #[.int .i64 0, .slice none 0 0, .string noB, .int .i64 0, .int .i64 0] hdT)) := hlk
    show Calls _ _ _ _ fun e w' => e = .returned (.tuple #[aggH y, .int .i64 0]) ∧ HldAt w' B mb n (dropH hs i) ∧ But w w' (fun k => k = mb)
    clear hf hS5
    have hbY := HB.out.trans ((bel_alloc (w.alloc (.cells #[.int .i64 0, .slice none 0 0, .string noB, .int .i64 0, .int .i64 0] hdT)) (.cells #[.int .i64 y.id, .slice y.A y.l.length y.c, .string y.cls, .int .i64 y.cnt, .int .i64 y.til] hdT)).mono HB.out.size)
    have hS8 := HS.out.more hbY
    obtain ⟨w9, hrun, hS9, hb9⟩ := hS8.del hi 0
    have HZ : Hid (((w.alloc (.cells #[.int .i64 0, .slice none 0 0, .string noB, .int .i64 0, .int .i64 0] hdT)).alloc (.cells #[.int .i64 y.id, .slice y.A y.l.length y.c, .string y.cls, .int .i64 y.cnt, .int .i64 y.til] hdT)).heap[w.heap.size]? = some (.cells #[.int .i64 0, .slice none 0 0, .string noB, .int .i64 0, .int .i64 0] hdT (0, 0))) := Lib.hid (((bel_alloc (w.alloc (.cells #[.int .i64 0, .slice none 0 0, .string noB, .int .i64 0, .int .i64 0] hdT)) (.cells #[.int .i64 y.id, .slice y.A y.l.length y.c, .string y.cls, .int .i64 y.cnt, .int .i64 y.til] hdT)).block _ (by simp)).trans (heap_alloc_new w _))
    have HY : Hid (((w.alloc (.cells #[.int .i64 0, .slice none 0 0, .string noB, .int .i64 0, .int .i64 0] hdT)).alloc (.cells #[.int .i64 y.id, .slice y.A y.l.length y.c, .string y.cls, .int .i64 y.cnt, .int .i64 y.til] hdT)).heap[(w.alloc (.cells #[.int .i64 0, .slice none 0 0, .string noB, .int .i64 0, .int .i64 0] hdT)).heap.size]? = some (.cells #[.int .i64 y.id, .slice y.A y.l.length y.c, .string y.cls, .int .i64 y.cnt, .int .i64 y.til] hdT (0, 0))) := Lib.hid (heap_alloc_new _ _)
    have HS9 := Lib.hid hS9
    have HB9 := Lib.hid hb9
    have HBY := Lib.hid hbY
    have c1 := hS8.box
    clear hS9 hb9 hS8 hbY
    go_enter Try.func13, Try.ntmps13
    go_upto_region 6 with (go_at_call 25; (with_reducible refine K0.out.mono ?_); rintro e w6 ⟨rfl, rfl⟩)
    have hz9 := (HB9.out.block w.heap.size (by simp; omega) (by have := HM0.out; omega)).trans HZ.out
    have hy9 := (HB9.out.block (w.alloc (.cells #[.int .i64 0, .slice none 0 0, .string noB, .int .i64 0, .int .i64 0] hdT)).heap.size (by simp) (by have := HM0.out; simp; omega)).trans HY.out
    rw [World.size_alloc] at hy9
    have d0 := cell_of_row _ _ 0 _ _ (0, 0) hy9
    have d1 := cell_of_row _ _ 1 _ _ (0, 0) hy9
    have d2 := cell_of_row _ _ 2 _ _ (0, 0) hy9
    have d3 := cell_of_row _ _ 3 _ _ (0, 0) hy9
    have d4 := cell_of_row _ _ 4 _ _ (0, 0) hy9
    have y0 := cell_of_row _ _ 0 _ _ (0, 0) hz9
    have y1 := cell_of_row _ _ 1 _ _ (0, 0) hz9
    have y2 := cell_of_row _ _ 2 _ _ (0, 0) hz9
    have y3 := cell_of_row _ _ 3 _ _ (0, 0) hz9
    have y4 := cell_of_row _ _ 4 _ _ (0, 0) hz9
    have g0 := frozen_of_row _ _ 0 _ _ hz9
    have g1 := frozen_of_row _ _ 1 _ _ hz9
    have g2 := frozen_of_row _ _ 2 _ _ hz9
    have g3 := frozen_of_row _ _ 3 _ _ hz9
    have g4 := frozen_of_row _ _ 4 _ _ hz9
    have HZ9 := Lib.hid hz9
    clear hz9 hy9 hlk c0
    go_upto_region 7 with fail
    clear hrun c1
    go_wp2
    have hh := S5.heap HZ9.out (.int .i64 y.id) (.slice y.A y.l.length y.c) (.string y.cls) (.int .i64 y.cnt) (.int .i64 y.til)
    have hbut := S5.but w9 w.heap.size (.int .i64 y.id) (.slice y.A y.l.length y.c) (.string y.cls) (.int .i64 y.cnt) (.int .i64 y.til)
    have hs9 := HB9.out.size
    have hsz : w.heap.size + 2 ≤ w9.heap.size := by simpa using hs9
    have hbF : But w (S5 w9 w.heap.size (.int .i64 y.id) (.slice y.A y.l.length y.c) (.string y.cls) (.int .i64 y.cnt) (.int .i64 y.til)) (fun k => k = mb) := ((But.of_below HBY.out).trans HB9.out (fun _ _ h => h)).trans hbut (fun k hk e => by omega)
    have hSF : HldAt (S5 w9 w.heap.size (.int .i64 y.id) (.slice y.A y.l.length y.c) (.string y.cls) (.int .i64 y.cnt) (.int .i64 y.til)) B mb n (dropH hs i) := HS.out.to hbF (HS9.out.map.same (hbut.block mb HS9.out.map.lt (by have := HM0.out; omega))) (HS.out.srt.drop i) (fun y hy => (mem_drop.1 hy).1)
    rw [show ((((w9.setCell ⟨w.heap.size, 0, none⟩ (.int .i64 y.id)).setCell ⟨w.heap.size, 1, none⟩ (.slice y.A y.l.length y.c)).setCell ⟨w.heap.size, 2, none⟩ (.string y.cls)).setCell ⟨w.heap.size, 3, none⟩ (.int .i64 y.cnt)).setCell ⟨w.heap.size, 4, none⟩ (.int .i64 y.til) = S5 w9 w.heap.size (.int .i64 y.id) (.slice y.A y.l.length y.c) (.string y.cls) (.int .i64 y.cnt) (.int .i64 y.til) from rfl]
    generalize S5 w9 w.heap.size (.int .i64 y.id) (.slice y.A y.l.length y.c) (.string y.cls) (.int .i64 y.cnt) (.int .i64 y.til) = w10 at *
    have d0 := cell_of_row _ _ 0 _ _ (0, 0) hh
    have d1 := cell_of_row _ _ 1 _ _ (0, 0) hh
    have d2 := cell_of_row _ _ 2 _ _ (0, 0) hh
    have d3 := cell_of_row _ _ 3 _ _ (0, 0) hh
    have d4 := cell_of_row _ _ 4 _ _ (0, 0) hh
    refine bodyPost_ret (v := .tuple #[aggH y, .int .i64 0]) ?_ rfl ⟨rfl, hSF, hbF⟩
    simp [results, Try.results13, go_sem, d0, d1, d2, d3, d4]
end Go.Proofs.Ythillkbcbklhaaa
