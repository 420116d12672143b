/- maps.Values at holds as an iterator; slices.AppendSeq, Collect, SortedFunc; the holds in their order. -/
import Derived.Test.YthillkbcbklhaaaHldG
import Derived.RangeFuncNested
import Derived.RangeFuncBound
import Derived.RangeFuncCalls
import Derived.RangeFuncLeaves
import Derived.RangeFuncBox
import Derived.RangeFuncWrites
import Derived.OwnWalkIn
import Derived.TacticsInMore
import Derived.LoopNIn
import Derived.LoopIn
import Derived.Maps.OwnIn
import Derived.Maps.Views
import Derived.Maps.AppendAt
import Derived.Sort.MapsRangeIn
namespace Go.Proofs.Ythillkbcbklhaaa
open Go.RowKit Go.Shelf Go.Maps Go.MapKept Go.Lib Go.Sort
set_option linter.unusedSimpArgs false
set_option linter.unusedVariables false
attribute [local go_sem] Oper.semAt_some

theorem wide_fn (f : Nat) : Fence.wide.fn f := trivial
attribute [local simp] wide_fn
theorem abide_below {β : Type} {B : Nat} {J : β → World → Prop} (hJ : AbidesFrom B J) {s : β} {W W' : World} (h : J s W) (hb : Below W.heap.size W W') : J s W' :=
  hJ s W W' none h (grown_of_below hb) (fun r e => by cases e)
abbrev hlT : TypeId := 45
abbrev encs1 (x : Hd) : Array Value := #[aggH x]
def KpA (n₀ : Nat) (A B : World) : Prop := KeepsWalks A B ∧ Below n₀ A B
theorem kpA_t {n₀ : Nat} {A B C : World} (h : KpA n₀ A B) (k : KpA n₀ B C) : KpA n₀ A C := ⟨h.1.trans k.1, h.2.trans k.2⟩
theorem kpA_b {n₀ : Nat} {w : World} (hn : n₀ ≤ w.heap.size) (W : World) (l : Nat) (o o' : Obj) (hl : w.heap.size ≤ l) (h : W.heap[l]? = some o) (h1 : o.isCells = false) (h2 : o.isWalk = false) : KpA n₀ W (W.putObj l o') :=
  ⟨walksK_b (w := w) W l o o' hl h h1 h2, belowK_b hn W l o o' hl h h1 h2⟩
set_option maxRecDepth 100000 in
set_option maxHeartbeats 4000000 in
theorem vals1_in (l Bm B mb n n₀ : Nat) (hs : List Hd) (J Jx : List Hd → World → Prop)
    (hY : ∀ pre x W, J pre W → pre.length < n → YieldAt Fence.wide 8 Try.prog l (encs1 x) W fun e W' =>
      (e = .returned (.bool true) ∧ J (pre ++ [x]) W' ∧ KpA n₀ W W') ∨ (e = .returned (.bool false) ∧ Jx (pre ++ [x]) W'))
    (W : World) (hJ : AbidesFrom W.heap.size J) (hm : W.cell? ⟨Bm, 0, none⟩ = some (.map (some mb))) (hS : HldAt W B mb n hs) (h0 : J [] W) :
    CallsIn Fence.wide 9 Try.prog 45 #[.func (.yield l) #[] #[], .pointer (some ⟨Bm, 0, none⟩)] W fun e W' => (∃ v, e = .returned v) ∧
      ((∃ ys : List Hd, (ys.Perm hs ∧ ys.length ≤ n) ∧ J ys W') ∨ (∃ pre, True ∧ Jx pre W')) := by
  obtain ⟨D0, hown, hsz, hD⟩ := hS.vals
  have hst := ColH.start (n := n) (fun h hh => ⟨(hS.ok h hh).1.i0, (hS.ok h hh).1.i1⟩) hS.srt hD
  refine callsIn_of_wp Try.func45 rfl trivial ?_ rfl
  simp only [Try.ntmps45, List.size_toArray, List.length_cons, List.length_nil, Nat.reduceAdd, Nat.reduceSub, Array.replicate_succ, Array.replicate_zero, List.push_toArray, List.append_toArray, List.nil_append, List.cons_append]
  have HD := Lib.hid hD
  have HST := Lib.hid hst
  have HSR := Lib.hid hS.srt
  have HY := Lib.hid hY
  have HJ := Lib.hid hJ
  have HSZ := Lib.hid hsz
  clear hD hst hY hJ hS hsz
  gi_wp2_with (first
    | (gi_at_range; refine wpListIn_range_own _ rfl _ hmT rfl 3 hdT intK Try.underlying56 _ mb n _ rfl hown ?_; intro w0 hrg0 hg0 hs0)
    | gi_in)
  go_frame
  gi_loopw [4] (fun _ wr => ∃ (left : Lit → Bool) (cnt : Nat) (ss : List Hd), wr.ranges Try.prog 3 Rh mb W.heap.size n D0 left cnt ∧ ss.length + cnt ≤ Maps.size D0 ∧ ColH hs left ss ∧ (∀ kl, left kl = true → Maps.has D0 kl = true) ∧ J ss wr)
    (fun _ wr => wr.rangeLeft mb W.heap.size)
  case atStart => exact ⟨_, _, [], hrg0, by simp, HST.out, fun kl h => h, HJ.out [] W w0 none h0 hg0 (fun r e => by cases e)⟩
  case round =>
    obtain ⟨left, cnt, ss, hrg, hcs, hC, hLh, hJs⟩ := hrel
    gi_wp2_with (first
      | (gi_at_next; refine wpListIn_next_ranges _ rfl _ rfl 3 intK Rh (fun x : Int => Value.int .i64 x) id (fun key kl hk => (by obtain ⟨x, e, _⟩ := Maps.keyOf_int_inv Try.underlying3 hk; exact ⟨x, e⟩)) (fun v _ _ => ⟨v, rfl⟩) mb W.heap.size n _ _ _ rfl hrg ?_ ?_)
      | gi_in)
    · intro hc0 hl0
      gi_wp2
      go_end0
      exact ⟨⟨_, rfl⟩, .inl ⟨ss, ⟨hC.all HSR.out hl0, by have := HSZ.out; omega⟩, hJs⟩⟩
    · intro x c kl yd yp w2 cnt2 hkey hlk hv hat hrg2 hlt hg2 hs2 hen
      obtain ⟨x', e1, e2, hwf⟩ := Maps.keyOf_int_inv Try.underlying3 hkey
      simp only [Value.int.injEq, true_and] at e1
      subst e1
      have hx := int_bnd hwf
      have hd := HD.out x kl hkey hx
      rw [hLh kl hlk] at hd
      obtain ⟨y, hy⟩ := Option.isSome_iff_exists.1 hd.1.symm
      obtain ⟨hyin, hyid⟩ := find_some hy
      have ec : c = aggH y := by
        have h1 := hd.2 y hy
        rw [hat (.held zH)] at h1
        have h2 : yd = .held c := by
          have h3 := Option.some.inj (show some (DataW.held c, ([] : List MemPlace)) = some (yd, yp) from hv)
          exact (congrArg Prod.fst h3).symm
        rw [h2] at h1
        simpa using h1
      subst ec
      subst hyid
      subst e2
      have hJ2 : J ss w2 := HJ.out ss wr w2 (some W.heap.size) hJs hg2 (fun r e => by cases e; exact ⟨Nat.le_refl _, hrg.iter_walk⟩)
      have hbA := bel_alloc w2 (.cells #[.int .i64 y.id, .slice y.A y.l.length y.c, .string y.cls, .int .i64 y.cnt, .int .i64 y.til] hdT)
      have hJ3 : J ss (w2.alloc (.cells #[.int .i64 y.id, .slice y.A y.l.length y.c, .string y.cls, .int .i64 y.cnt, .int .i64 y.til] hdT)) := abide_below HJ.out hJ2 hbA
      have hrg3 := hrg2.alloc (.cells #[.int .i64 y.id, .slice y.A y.l.length y.c, .string y.cls, .int .i64 y.cnt, .int .i64 y.til] hdT)
      have z0 := hd_cells w2 y 0 _ rfl
      have z1 := hd_cells w2 y 1 _ rfl
      have z2 := hd_cells w2 y 2 _ rfl
      have z3 := hd_cells w2 y 3 _ rfl
      have z4 := hd_cells w2 y 4 _ rfl
      obtain ⟨fn, tmps, assign, body, hyy, hR⟩ := HY.out ss y _ hJ3 (by have := HSZ.out; omega)
      dsimp only [encs1] at hyy
      have HC2 := Lib.hid (hC.step HSR.out hyin hlk)
      have HL2 : Hid (∀ z, (left z && !z.sameKey (.int .i64 y.id)) = true → Maps.has D0 z = true) := Lib.hid (fun z hz => hLh z (by rw [Bool.and_eq_true] at hz; exact hz.1))
      clear hs2 hJ2 hbA hJs hd hat hv hkey hwf hy hx
      try dsimp only [id] at hen
      gi_wp2
      refine hR.mono ?_
      rintro e W3 (⟨rfl, hJ4, hk4⟩ | ⟨rfl, hJx4⟩)
      · gi_wp2
        have hrg4 := hrg3.of_walks hk4.1
        go_roundw
        case rel => exact ⟨_, cnt2, ss ++ [y], hrg4, by simp; omega, HC2.out, HL2.out, hJ4⟩
        case measure => rw [hrg4.left_eq, hrg.left_eq]; exact hlt
      · gi_wp2
        refine bodyPost_ret (results_none rfl _ _ _) rfl ?_
        exact ⟨⟨_, rfl⟩, .inr ⟨_, trivial, hJx4⟩⟩
theorem vals_stops (Bm B mb n n₀ : Nat) (hs : List Hd) (w : World) (hn : n₀ ≤ w.heap.size) (hm : w.cell? ⟨Bm, 0, none⟩ = some (.map (some mb))) (hS : HldAt w B mb n hs) :
    SeqStopsK Fence.wide 9 Try.prog 45 #[.pointer (some ⟨Bm, 0, none⟩)] encs1 (KpA n₀) (fun ys => ys.Perm hs ∧ ys.length ≤ n) (fun _ => True) n w := fun l J Jx W hW hJ _ hY h0 =>
  vals1_in l Bm B mb n n₀ hs J Jx hY W hJ (bel_cell hW hm) (hS.more hW) h0
theorem info_hd5 : (Try.prog.info? hdT).map (fun i => (i.zero, i.size, i.bytes)) = some (some (.agg #[.int .i64 0, .slice none 0 0, .string noB, .int .i64 0, .int .i64 0]), 5, 64) := by kernel_rfl
/-- a variable of the type of identifiers lies alone in block B -/
def BoxH (W : World) (B : Nat) (x : Hd) : Prop := W.heap[B]? = some (.cells #[.int .i64 x.id, .slice x.A x.l.length x.c, .string x.cls, .int .i64 x.cnt, .int .i64 x.til] hdT (0, 0))
theorem BoxH.kept {W W' : World} {B : Nat} {x : Hd} {row : Option Nat} (h : BoxH W B x) (hg : W.grownBy W' row) (hr : ∀ r, row = some r → ∃ o : Obj, W.heap[r]? = some o ∧ o.isCells = false) : BoxH W' B x :=
  (hg.block B (Array.getElem?_eq_some_iff.1 h).1 (fun e => by
    obtain ⟨o, h1, h2⟩ := hr B e.symm
    rw [show W.heap[B]? = _ from h] at h1
    cases h1
    cases h2)).trans h
theorem BoxH.cells {W : World} {B : Nat} {x : Hd} (h : BoxH W B x) : W.cell? ⟨B, 0, none⟩ = some (.int .i64 x.id) ∧ W.cell? ⟨B, 1, none⟩ = some (.slice x.A x.l.length x.c) ∧ W.cell? ⟨B, 2, none⟩ = some (.string x.cls) ∧ W.cell? ⟨B, 3, none⟩ = some (.int .i64 x.cnt) ∧ W.cell? ⟨B, 4, none⟩ = some (.int .i64 x.til) :=
  ⟨cell_of_row W B 0 _ _ (0, 0) h, cell_of_row W B 1 _ _ (0, 0) h, cell_of_row W B 2 _ _ (0, 0) h, cell_of_row W B 3 _ _ (0, 0) h, cell_of_row W B 4 _ _ (0, 0) h⟩
theorem BoxH.new (w : World) (x : Hd) : BoxH (w.alloc (.cells #[.int .i64 x.id, .slice x.A x.l.length x.c, .string x.cls, .int .i64 x.cnt, .int .i64 x.til] hdT)) w.heap.size x := World.alloc_heap_new w _
theorem own_sliceH {W : World} {B : Nat} {e : TypeId} {sz : Nat} {v : Value} {k : Nat} {xs : List Value} (h : W.ownsRow B e sz v k xs) : ∃ A n c, v = .slice A n c := by
  rcases h.2 with ⟨rfl, _⟩ | ⟨g, cap, cur, rfl, _⟩
  · exact ⟨_, _, _, rfl⟩
  · exact ⟨_, _, _, rfl⟩
theorem cell_rowH (w : World) (x : Hd) : ∀ j u, (encH x)[j]? = some u → (w.alloc (.cells #[.int .i64 x.id, .slice x.A x.l.length x.c, .string x.cls, .int .i64 x.cnt, .int .i64 x.til] hdT)).cell? ((⟨w.heap.size, 0, none⟩ : Addr).add j) = some u := by
  intro j u hj
  have hadd : (⟨w.heap.size, 0, none⟩ : Addr).add j = ⟨w.heap.size, j, none⟩ := by unfold Addr.add; split <;> simp_all
  rw [hadd, show #[Value.int .i64 x.id, .slice x.A x.l.length x.c, .string x.cls, .int .i64 x.cnt, .int .i64 x.til] = (encH x).toArray from rfl, cells_new, List.getElem?_toArray]
  exact hj
set_option maxRecDepth 100000 in
set_option maxHeartbeats 4000000 in
theorem appSeq_any (gf : Nat) (lb : Array Value) (S Sp : List Hd → Prop) (N : Nat) (w : World) (eg : ∀ args w, (callFunc gf args).run Try.prog w = .ok (.enter gf args) w) (hN : N ≤ 1000)
    (hseq : SeqStopsK Fence.wide 9 Try.prog gf lb encs1 (KpA w.heap.size) S Sp N w) :
    Calls Try.prog 47 #[.slice none 0 0, .func (.func gf) #[] lb] w fun e w' => ∃ v ys, e = .returned v ∧ S ys ∧ ROwn hdT 5 encH w.heap.size w' v ys ∧ Below w.heap.size w w' := by
  obtain ⟨i0, hi, hz0, hz1, hz2⟩ := info_parts info_hd5
  refine (callsIn_wide (n := 10)).1 ?_
  refine callsIn_of_wp_marks Try.func47 rfl trivial ?_ rfl
  simp only [Try.ntmps47, List.size_toArray, List.length_cons, List.length_nil, Nat.reduceAdd, Nat.reduceSub, Array.replicate_succ, Array.replicate_zero, List.push_toArray, List.append_toArray, List.nil_append, List.cons_append]
  have hB0 := bel_alloc w (.cells #[.slice none 0 0] hlT)
  have bS := Boxed.new w hlT (.slice none 0 0)
  gi_wp2
  refine wpIn_rangeFunc_ownH rfl (by omega) (gf := gf) (lb := lb) rfl trivial eg hseq kpA_t (kpA_b (by simp)) hB0 (fun _ => rfl)
    (fun pre W => (∃ v, Boxed W w.heap.size hlT v ∧ W.ownsRow w.heap.size hdT 5 v pre.length (cellsR encH pre) ∧ True) ∧ Below w.heap.size w W)
    (fun _ _ _ => False)
    (OwnFrom.and (Own.from (holdsRow_own w.heap.size w.heap.size hlT hdT 5 (fun pre : List Hd => pre.length) (fun pre => cellsR encH pre) (fun _ _ => True)) _) (ownFrom_below (Nat.le_refl _) (by simp)))
    (fun _ _ _ _ _ hs _ _ => hs)
    ⟨⟨_, bS, World.ownsRow_nil _ _ _ _, trivial⟩, hB0⟩
    (fun x a' W => ∃ Bx, w.heap.size < Bx ∧ BoxH W Bx x ∧ a' = { tmps := #[.slice none 0 0, .func (.func gf) #[] lb, .pointer (some ⟨w.heap.size, 0, none⟩), undef, .slice none 0 0, .pointer (some ⟨Bx, 0, none⟩), .func (.func gf) #[] lb, aggH x, undef, undef, undef, undef, undef], defers := [] })
    (fun x a' _ X Y row hs hg hr => by obtain ⟨Bx, h1, h2, h3⟩ := hs; exact ⟨Bx, h1, h2.kept hg (fun r e => (hr r e).2), h3⟩)
    ?assign ?body ?done ?stop
  case assign =>
    rintro l pre x W K ⟨⟨v, hv, hown, _⟩, hB⟩ hK
    gi_wp2
    exact hK _ _ ((KeepsOthers.alloc _ _).from _) ⟨(KeepsOthers.alloc _ _).walks, (Below.refl _ W).alloc hB.size _⟩ ⟨⟨v, hv.alloc _, hown.alloc _, trivial⟩, hB.alloc hB.size _⟩ ⟨W.heap.size, hv.lt, BoxH.new W x, rfl⟩
  case body =>
    rintro l pre x a' W hl ⟨r, hr⟩ ⟨⟨v, hv, hrow, _⟩, hB⟩ ⟨Bx, hBx, bX, rfl⟩ hlt
    obtain ⟨c0, c1, c2, c3, c4⟩ := bX.cells
    have hc := hv.cell
    have hle : pre.length ≤ 1000 := by omega
    obtain ⟨A1, n1, k1, rfl⟩ := own_sliceH hrow
    gi_wp2_with (gi_at_builtin; refine wpListIn_append_own _ rfl _ _ hlT rfl w.heap.size hdT i0 _ 5 64 Try.underlying45 hi hz0 hz1 hz2 rfl (by decide) _ _ _ rfl (hrow.alloc _) ⟨W.heap.size, 0, none⟩ 1 1 (encH x) rfl rfl (cell_rowH _ _) (by intro u hu; simp [encH] at hu; rcases hu with rfl | rfl | rfl | rfl | rfl <;> rfl) (by unfold maxLen; omega) (by omega) (by have := hB.size; simp; omega) ?_; intro v' w1 hown' hgrow _; obtain ⟨g', cap', rfl⟩ := ownsRow_succ hown'; obtain ⟨hv1, hv2, hr2, hk2, hb2⟩ := hv.appended (by decide) hrow hB.size (Nat.le_refl _) hown' hgrow; have hc1 := hv1.cell; have hf1 := hv1.frozen)
    exact ⟨hk2.from _, ⟨hk2.walks, hb2⟩, ⟨_, hv2, by rw [cellsR_app, cellsR_one, List.length_append]; exact hr2, trivial⟩, hB.trans hb2⟩
  case done =>
    rintro D ys W hD hS ⟨⟨v, hv, hrow, _⟩, hB⟩ hK
    have hc := hv.cell
    gi_wp2
    refine ⟨by simp, .inl ⟨_, _, rfl, run_takeDeferred hK, ?_⟩⟩
    exact ⟨_, results_tmp rfl _ _ _, v, ys, rfl, hS, ⟨ownsRow_putObj hrow _ hK rfl, by have := hB.size; simpa using this⟩, hB.trans (belowK_b (w := w) (Nat.le_refl _) W D _ _ (by simp at hD; omega) hK rfl rfl)⟩
  case stop =>
    rintro D c pre W _ _ h _
    exact h.elim
set_option maxHeartbeats 1000000 in
theorem collect_any (gf : Nat) (lb : Array Value) (S Sp : List Hd → Prop) (N : Nat) (w : World) (eg : ∀ args w, (callFunc gf args).run Try.prog w = .ok (.enter gf args) w) (hN : N ≤ 1000)
    (hseq : SeqStopsK Fence.wide 9 Try.prog gf lb encs1 (KpA w.heap.size) S Sp N w) :
    Calls Try.prog 43 #[.func (.func gf) #[] lb] w fun e w' => ∃ v ys, e = .returned v ∧ S ys ∧ ROwn hdT 5 encH w.heap.size w' v ys ∧ Below w.heap.size w w' := by
  have K := Lib.hid (appSeq_any gf lb S Sp N w eg hN hseq)
  go_enter Try.func43, Try.ntmps43
  go_wp2_with (go_at_call 47; refine K.out.mono ?_; rintro e w' ⟨v, ys, rfl, hS, hO, hb⟩)
  go_ret
  exact ⟨v, ys, rfl, hS, hO, hb⟩
set_option maxHeartbeats 1000000 in
theorem sortedF_any (gf : Nat) (lb : Array Value) (S Sp : List Hd → Prop) (N : Nat) (w : World) (eg : ∀ args w, (callFunc gf args).run Try.prog w = .ok (.enter gf args) w) (hN : N ≤ 1000) (hSl : ∀ ys, S ys → ys.length ≤ 1000)
    (hseq : SeqStopsK Fence.wide 9 Try.prog gf lb encs1 (KpA w.heap.size) S Sp N w) :
    Calls Try.prog 37 #[.func (.func gf) #[] lb, .func (.func 39) #[] #[]] w fun e w' => ∃ v ys zs, e = .returned v ∧ S ys ∧ SrtR w.heap.size ys w' v zs ∧ Below w.heap.size w w' := by
  have K := Lib.hid (collect_any gf lb S Sp N w eg hN hseq)
  have K2 : Hid (∀ (ys : List Hd) v W, S ys → Below w.heap.size w W → ROwn hdT 5 encH w.heap.size W v ys → Calls Try.prog 44 #[v, .func (.func 39) #[] #[]] W fun e w' => e = .returned (.tuple #[]) ∧ (∃ zs, SrtR w.heap.size ys w' v zs) ∧ Below w.heap.size w w') := Lib.hid (fun ys v W hS hb hO => (sortD_any ys v w.heap.size W hO (hSl ys hS)).mono (by
    rintro e w' ⟨rfl, h1, h2⟩
    exact ⟨rfl, h1, hb.trans (h2.below hO.base (fun k hk e => by have := (hO.low e).1; omega))⟩))
  go_enter Try.func37, Try.ntmps37
  go_wp2_with (first
    | (go_at_call 43; refine K.out.mono ?_; rintro e w' ⟨v, ys, rfl, hS, hO, hb⟩)
    | (go_at_call 44; refine (K2.out ys v _ hS hb hO).mono ?_; rintro e w6 ⟨rfl, ⟨zs, hz⟩, hb6⟩))
  go_ret
  exact ⟨v, ys, zs, rfl, hS, hz, hb6⟩
set_option maxHeartbeats 1000000 in
theorem mvalues_any (m : Option Nat) (w : World) : Calls Try.prog 38 #[.map m] w fun e w' => e = .returned (.func (.func 45) #[] #[.pointer (some ⟨w.heap.size, 0, none⟩)]) ∧ w' = w.alloc (.cells #[.map m] hmT) := by
  go_enter Try.func38, Try.ntmps38
  go_wp2
  go_ret
  exact ⟨rfl, rfl⟩
theorem eg_mvals : ∀ args w, (callFunc 45 args).run Try.prog w = .ok (.enter 45 args) w := enters_of Try.func45 (by kernel_rfl) rfl
set_option maxRecDepth 100000 in
set_option maxHeartbeats 1000000 in
theorem sorted_void (p : Option Addr) (w : World) (hv : VoidH w p) : Calls Try.prog 33 #[.pointer p] w fun e w' => e = .returned (.slice none 0 0) ∧ w' = w := by
  have K := Lib.hid (isVoid_yes p _ hv)
  clear hv
  go_enter Try.func33, Try.ntmps33
  go_wp2_with (go_at_call 25; (with_reducible refine K.out.mono ?_); rintro e w6 ⟨rfl, rfl⟩)
  go_ret
  exact ⟨rfl, rfl⟩
/-- a list of one's own whose block lies from N on -/
structure OwnH (N : Nat) (w : World) (v : Value) (l : List Hd) : Prop where
  row : HdL w v l
  fresh : l = [] ∨ ∃ b c, v = .slice (some ⟨b, 0, none⟩) l.length c ∧ N ≤ b ∧ ∀ t, t < l.length * 5 → w.frozen? ⟨b, t, none⟩ = false
set_option maxRecDepth 100000 in
set_option maxHeartbeats 4000000 in
theorem sorted_any {B mb n : Nat} {hs : List Hd} (w : World) (hS : HldAt w B mb n hs) (hn : n ≤ 1000) :
    Calls Try.prog 33 #[.pointer (some ⟨B, 0, none⟩)] w fun e w' => ∃ v, e = .returned v ∧ OwnH w.heap.size w' v hs ∧ hs.length ≤ n ∧ Below w.heap.size w w' := by
  have K0 := Lib.hid (isVoid_no B mb w hS.box)
  have c0 := hS.box
  have K1 := Lib.hid (mvalues_any (some mb) w)
  have hbA := bel_alloc w (.cells #[.map (some mb)] hmT)
  have K2 : Hid (Calls Try.prog 37 #[.func (.func 45) #[] #[.pointer (some ⟨w.heap.size, 0, none⟩)], .func (.func 39) #[] #[]] (w.alloc (.cells #[.map (some mb)] hmT)) fun e w' => ∃ v, e = .returned v ∧ OwnH w.heap.size w' v hs ∧ hs.length ≤ n ∧ Below w.heap.size w w') := Lib.hid ((sortedF_any _ _ (fun ys => ys.Perm hs ∧ ys.length ≤ n) (fun _ => True) n _ eg_mvals hn (fun ys h => Nat.le_trans h.2 hn)
    (vals_stops w.heap.size B mb n _ hs _ (Nat.le_refl _) ((cells_new w #[.map (some mb)] hmT 0).trans rfl) (hS.more hbA))).mono (by
      rintro e w' ⟨v, ys, zs, rfl, ⟨h1, h2⟩, hz, hb⟩
      have hp := hz.perm.trans h1
      have hids : (zs.map Hd.id).Nodup := ((hp.map Hd.id).nodup_iff).2 hS.srt.ids
      have hord : zs.Pairwise ltH := by
        rw [List.pairwise_iff_getElem]
        intro i j hi hj hij
        have h4 := hz.ord i j _ _ hij (List.getElem?_eq_getElem hi) (List.getElem?_eq_getElem hj)
        have hne : zs[i].id ≠ zs[j].id := by
          rw [List.nodup_iff_pairwise_ne, List.pairwise_iff_getElem] at hids
          have := hids i j (by simpa using hi) (by simpa using hj) hij
          simpa using this
        exact (ltH_tri hne).resolve_right h4
      have e1 : zs = hs := srtH_unique hord hS.srt.ord (fun x => hp.mem_iff)
      subst e1
      refine ⟨v, rfl, ⟨hz.row, ?_⟩, by rw [← h1.length_eq]; exact h2, hbA.trans (hb.mono hbA.size)⟩
      rcases hz.fresh with h | ⟨b, c, e, h3, h4⟩
      · exact .inl h
      · exact .inr ⟨b, c, e, Nat.le_trans hbA.size h3, h4⟩))
  clear hS
  go_enter Try.func33, Try.ntmps33
  go_wp2_with (first
    | (go_at_call 25; (with_reducible refine K0.out.mono ?_); rintro e w4 ⟨rfl, rfl⟩)
    | (go_at_call 38; (with_reducible refine K1.out.mono ?_); rintro e w5 ⟨rfl, rfl⟩)
    | (go_at_call 37; (with_reducible refine K2.out.mono ?_); rintro e w6 ⟨v, rfl, ho, hln, hb⟩))
  go_ret
  exact ⟨v, rfl, ho, hln, hb⟩
end Go.Proofs.Ythillkbcbklhaaa
