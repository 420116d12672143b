/- slices.AppendSeq, Collect, SortedFunc at identifiers of legs; hasTwice; Legs. -/
import Derived.Test.YtkghpapbifijcaaGreatDoorStkI
import Derived.Maps.AppendAt
namespace Go.Proofs.YtkghpapbifijcaaGreatDoor
open Go.RowKit Go.Shelf Go.Maps Go.MapKept Go.Lib Go.Sort
set_option linter.unusedSimpArgs false
set_option linter.unusedVariables false
attribute [local go_sem] Oper.semAt_some
attribute [local simp] wide_fn

theorem info_lid4 : (Tryz.prog.info? lidT).map (fun i => (i.zero, i.size, i.bytes)) = some (some (.agg #[.string noB, .int .i64 0, .int .i64 0, .string noB]), 4, 48) := by kernel_rfl
/-- a variable of the type of identifiers lies alone in block B -/
def BoxD (W : World) (B : Nat) (x : Lid) : Prop := W.heap[B]? = some (.cells #[.string x.car, .int .i64 x.num, .int .i64 x.day, .string x.frm] lidT (0, 0))
theorem BoxD.kept {W W' : World} {B : Nat} {x : Lid} {row : Option Nat} (h : BoxD W B x) (hg : W.grownBy W' row) (hr : ∀ r, row = some r → ∃ o : Obj, W.heap[r]? = some o ∧ o.isCells = false) : BoxD W' B x :=
  (hg.block B (Array.getElem?_eq_some_iff.1 h).1 (fun e => by
    obtain ⟨o, h1, h2⟩ := hr B e.symm
    rw [show W.heap[B]? = _ from h] at h1
    cases h1
    cases h2)).trans h
theorem BoxD.cells {W : World} {B : Nat} {x : Lid} (h : BoxD W B x) : W.cell? ⟨B, 0, none⟩ = some (.string x.car) ∧ W.cell? ⟨B, 1, none⟩ = some (.int .i64 x.num) ∧ W.cell? ⟨B, 2, none⟩ = some (.int .i64 x.day) ∧ W.cell? ⟨B, 3, none⟩ = some (.string x.frm) :=
  ⟨cell_of_row W B 0 _ _ (0, 0) h, cell_of_row W B 1 _ _ (0, 0) h, cell_of_row W B 2 _ _ (0, 0) h, cell_of_row W B 3 _ _ (0, 0) h⟩
theorem BoxD.new (w : World) (x : Lid) : BoxD (w.alloc (.cells #[.string x.car, .int .i64 x.num, .int .i64 x.day, .string x.frm] lidT)) w.heap.size x := World.alloc_heap_new w _
theorem own_sliceD {W : World} {B : Nat} {e : TypeId} {sz : Nat} {v : Value} {k : Nat} {xs : List Value} (h : W.ownsRow B e sz v k xs) : ∃ A n c, v = .slice A n c := by
  rcases h.2 with ⟨rfl, _⟩ | ⟨g, cap, cur, rfl, _⟩
  · exact ⟨_, _, _, rfl⟩
  · exact ⟨_, _, _, rfl⟩
theorem cell_rowD (w : World) (x : Lid) : ∀ j u, (encD x)[j]? = some u → (w.alloc (.cells #[.string x.car, .int .i64 x.num, .int .i64 x.day, .string x.frm] lidT)).cell? ((⟨w.heap.size, 0, none⟩ : Addr).add j) = some u := by
  intro j u hj
  have hadd : (⟨w.heap.size, 0, none⟩ : Addr).add j = ⟨w.heap.size, j, none⟩ := by unfold Addr.add; split <;> simp_all
  rw [hadd, show #[Value.string x.car, .int .i64 x.num, .int .i64 x.day, .string x.frm] = (encD x).toArray from rfl, cells_new, List.getElem?_toArray]
  exact hj
set_option maxRecDepth 100000 in
set_option maxHeartbeats 4000000 in
theorem appSeq_any (gf : Nat) (lb : Array Value) (S Sp : List Lid → Prop) (N : Nat) (w : World) (eg : ∀ args w, (callFunc gf args).run Tryz.prog w = .ok (.enter gf args) w) (hN : N ≤ 1000)
    (hseq : SeqStopsK Fence.wide 9 Tryz.prog gf lb encs1 (KpA w.heap.size) S Sp N w) :
    Calls Tryz.prog 137 #[.slice none 0 0, .func (.func gf) #[] lb] w fun e w' => ∃ v ys, e = .returned v ∧ S ys ∧ ROwn lidT 4 encD w.heap.size w' v ys ∧ Below w.heap.size w w' := by
  obtain ⟨i0, hi, hz0, hz1, hz2⟩ := info_parts info_lid4
  refine (callsIn_wide (n := 10)).1 ?_
  refine callsIn_of_wp_marks Tryz.func137 rfl trivial ?_ rfl
  simp only [Tryz.ntmps137, List.size_toArray, List.length_cons, List.length_nil, Nat.reduceAdd, Nat.reduceSub, Array.replicate_succ, Array.replicate_zero, List.push_toArray, List.append_toArray, List.nil_append, List.cons_append]
  have hB0 := bel_alloc w (.cells #[.slice none 0 0] lisT)
  have bS := Boxed.new w lisT (.slice none 0 0)
  gi_wp2
  refine wpIn_rangeFunc_ownH rfl (by omega) (gf := gf) (lb := lb) rfl trivial eg hseq kpA_t (kpA_b (by simp)) hB0 (fun _ => rfl)
    (fun pre W => (∃ v, Boxed W w.heap.size lisT v ∧ W.ownsRow w.heap.size lidT 4 v pre.length (cellsR encD pre) ∧ True) ∧ Below w.heap.size w W)
    (fun _ _ _ => False)
    (OwnFrom.and (Own.from (holdsRow_own w.heap.size w.heap.size lisT lidT 4 (fun pre : List Lid => pre.length) (fun pre => cellsR encD pre) (fun _ _ => True)) _) (ownFrom_below (Nat.le_refl _) (by simp)))
    (fun _ _ _ _ _ hs _ _ => hs)
    ⟨⟨_, bS, World.ownsRow_nil _ _ _ _, trivial⟩, hB0⟩
    (fun x a' W => ∃ Bx, w.heap.size < Bx ∧ BoxD W Bx x ∧ a' = { tmps := #[.slice none 0 0, .func (.func gf) #[] lb, .pointer (some ⟨w.heap.size, 0, none⟩), undef, .slice none 0 0, .pointer (some ⟨Bx, 0, none⟩), .func (.func gf) #[] lb, aggD x, undef, undef, undef, undef, undef], defers := [] })
    (fun x a' _ X Y row hs hg hr => by obtain ⟨Bx, h1, h2, h3⟩ := hs; exact ⟨Bx, h1, h2.kept hg (fun r e => (hr r e).2), h3⟩)
    ?assign ?body ?done ?stop
  case assign =>
    rintro l pre x W K ⟨⟨v, hv, hown, _⟩, hB⟩ hK
    gi_wp2
    exact hK _ _ ((KeepsOthers.alloc _ _).from _) ⟨(KeepsOthers.alloc _ _).walks, (Below.refl _ W).alloc hB.size _⟩ ⟨⟨v, hv.alloc _, hown.alloc _, trivial⟩, hB.alloc hB.size _⟩ ⟨W.heap.size, hv.lt, BoxD.new W x, rfl⟩
  case body =>
    rintro l pre x a' W hl ⟨r, hr⟩ ⟨⟨v, hv, hrow, _⟩, hB⟩ ⟨Bx, hBx, bX, rfl⟩ hlt
    obtain ⟨c0, c1, c2, c3⟩ := bX.cells
    have hc := hv.cell
    have hle : pre.length ≤ 1000 := by omega
    obtain ⟨A1, n1, k1, rfl⟩ := own_sliceD hrow
    gi_wp2_with (gi_at_builtin; refine wpListIn_append_own _ rfl _ _ lisT rfl w.heap.size lidT i0 _ 4 48 Tryz.underlying48 hi hz0 hz1 hz2 rfl (by decide) _ _ _ rfl (hrow.alloc _) ⟨W.heap.size, 0, none⟩ 1 1 (encD x) rfl rfl (cell_rowD _ _) (by intro u hu; simp [encD] at hu; rcases hu with rfl | rfl | rfl | rfl <;> rfl) (by unfold maxLen; omega) (by omega) (by have := hB.size; simp; omega) ?_; intro v' w1 hown' hgrow _; obtain ⟨g', cap', rfl⟩ := ownsRow_succ hown'; obtain ⟨hv1, hv2, hr2, hk2, hb2⟩ := hv.appended (by decide) hrow hB.size (Nat.le_refl _) hown' hgrow; have hc1 := hv1.cell; have hf1 := hv1.frozen)
    exact ⟨hk2.from _, ⟨hk2.walks, hb2⟩, ⟨_, hv2, by rw [cellsR_app, cellsR_one, List.length_append]; exact hr2, trivial⟩, hB.trans hb2⟩
  case done =>
    rintro D ys W hD hS ⟨⟨v, hv, hrow, _⟩, hB⟩ hK
    have hc := hv.cell
    gi_wp2
    refine ⟨by simp, .inl ⟨_, _, rfl, run_takeDeferred hK, ?_⟩⟩
    exact ⟨_, results_tmp rfl _ _ _, v, ys, rfl, hS, ⟨ownsRow_putObj hrow _ hK rfl, by have := hB.size; simpa using this⟩, hB.trans (belowK_b (w := w) (Nat.le_refl _) W D _ _ (by simp at hD; omega) hK rfl rfl)⟩
  case stop =>
    rintro D c pre W _ _ h _
    exact h.elim
set_option maxHeartbeats 1000000 in
theorem collect_any (gf : Nat) (lb : Array Value) (S Sp : List Lid → Prop) (N : Nat) (w : World) (eg : ∀ args w, (callFunc gf args).run Tryz.prog w = .ok (.enter gf args) w) (hN : N ≤ 1000)
    (hseq : SeqStopsK Fence.wide 9 Tryz.prog gf lb encs1 (KpA w.heap.size) S Sp N w) :
    Calls Tryz.prog 116 #[.func (.func gf) #[] lb] w fun e w' => ∃ v ys, e = .returned v ∧ S ys ∧ ROwn lidT 4 encD w.heap.size w' v ys ∧ Below w.heap.size w w' := by
  have K := Lib.hid (appSeq_any gf lb S Sp N w eg hN hseq)
  go_enter Tryz.func116, Tryz.ntmps116
  go_wp2_with (go_at_call 137; refine K.out.mono ?_; rintro e w' ⟨v, ys, rfl, hS, hO, hb⟩)
  go_ret
  exact ⟨v, ys, rfl, hS, hO, hb⟩
set_option maxHeartbeats 1000000 in
theorem sortedF_any (gf : Nat) (lb : Array Value) (S Sp : List Lid → Prop) (N : Nat) (w : World) (eg : ∀ args w, (callFunc gf args).run Tryz.prog w = .ok (.enter gf args) w) (hN : N ≤ 1000) (hSl : ∀ ys, S ys → ys.length ≤ 1000)
    (hseq : SeqStopsK Fence.wide 9 Tryz.prog gf lb encs1 (KpA w.heap.size) S Sp N w) :
    Calls Tryz.prog 81 #[.func (.func gf) #[] lb, .func (.func 83) #[] #[]] w fun e w' => ∃ v ys zs, e = .returned v ∧ S ys ∧ SrtD w.heap.size ys w' v zs ∧ Below w.heap.size w w' := by
  have K := Lib.hid (collect_any gf lb S Sp N w eg hN hseq)
  have K2 : Hid (∀ (ys : List Lid) v W, S ys → Below w.heap.size w W → ROwn lidT 4 encD w.heap.size W v ys → Calls Tryz.prog 117 #[v, .func (.func 83) #[] #[]] W fun e w' => e = .returned (.tuple #[]) ∧ (∃ zs, SrtD w.heap.size ys w' v zs) ∧ Below w.heap.size w w') := Lib.hid (fun ys v W hS hb hO => (sortD_any ys v w.heap.size W hO (hSl ys hS)).mono (by
    rintro e w' ⟨rfl, h1, h2⟩
    exact ⟨rfl, h1, hb.trans (h2.below hO.base (fun k hk e => by have := (hO.low e).1; omega))⟩))
  go_enter Tryz.func81, Tryz.ntmps81
  go_wp2_with (first
    | (go_at_call 116; refine K.out.mono ?_; rintro e w' ⟨v, ys, rfl, hS, hO, hb⟩)
    | (go_at_call 117; refine (K2.out ys v _ hS hb hO).mono ?_; rintro e w6 ⟨rfl, ⟨zs, hz⟩, hb6⟩))
  go_ret
  exact ⟨v, ys, zs, rfl, hS, hz, hb6⟩
end Go.Proofs.YtkghpapbifijcaaGreatDoor
