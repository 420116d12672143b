/- The iterator of the journeys: its contract. -/
import Derived.RangeFuncNested
import Derived.RangeFuncBound
import Derived.RangeFuncCalls
import Derived.RangeFuncLeaves
import Derived.Shelf.Abstract
import Derived.Shelf.RegionOpen
import Derived.WalkKit
import Derived.OwnWalkIn
import Derived.TacticsInMore
import Derived.LoopNIn
import Derived.LoopIn
import Derived.Maps.AppendAt
import Derived.Sort.QuietIn
import Derived.Sort.BigQuietIn
import Derived.Test.YtkcdifanhdakhaaDoorConB
import Derived.Test.YtkcdifanhdakhaaDoorGivR
namespace Go.Proofs.YtkcdifanhdakhaaDoor.Con
open Go.RowKit Go.Shelf
set_option linter.unusedSimpArgs false
set_option linter.unusedVariables false
attribute [local go_sem] Oper.semAt_some
theorem wide_fn (f : Nat) : Fence.wide.fn f := trivial
attribute [local simp] wide_fn

theorem grown_of_below {W W' : World} (h : Below W.heap.size W W') : W.grownBy W' none := ⟨h.os, h.tape, h.output, h.size, fun k hk _ => h.block k hk⟩
theorem abide_below {β : Type} {B : Nat} {J : β → World → Prop} (hJ : AbidesFrom B J) {s : β} {W W' : World} (h : J s W) (hb : Below W.heap.size W W') : J s W' :=
  hJ s W W' none h (grown_of_below hb) (fun r e => by cases e)
abbrev encY (x : Pth) : Array Value := #[.slice (some ⟨x.b, 0, none⟩) x.l.length x.c]
/-- what the iterator has laid for a journey -/
def GvP (x : Pth) (W : World) : Prop := W.heap[x.b]? = some (.cells (cellsR encN x.l).toArray inT (0, 0))
theorem gvP_at {x : Pth} {W : World} (h : GvP x W) : PthAt W x := by
  refine ⟨(Array.getElem?_eq_some_iff.1 h).1, fun i k hk => ?_⟩
  rw [cell_of_row W x.b i _ _ (0, 0) h, List.getElem?_toArray]
  have := cellsR_at (enc := encN) (sz := 1) (fun _ => rfl) x.l i 0 k (.int .i64 (k : Int)) hk rfl
  simpa using this
/-- what a round keeps: whatever lay below n0; of what lay below n1 all but the block FB; every row of numbers -/
structure KJ (n0 n1 FB : Nat) (W W' : World) : Prop where
  bel : Below n0 W W'
  old : ∀ k, k < n1 → k ≠ FB → W'.heap[k]? = W.heap[k]?
  int : ∀ (b : Nat) (cs : Array Value), W.heap[b]? = some (Obj.cells cs inT (0, 0)) → W'.heap[b]? = some (Obj.cells cs inT (0, 0))
theorem kj_t {n0 n1 FB : Nat} {X Y Z : World} (h : KJ n0 n1 FB X Y) (k : KJ n0 n1 FB Y Z) : KJ n0 n1 FB X Z := ⟨h.bel.trans k.bel, fun i hi hn => (k.old i hi hn).trans (h.old i hi hn), fun b cs hb => k.int b cs (h.int b cs hb)⟩
theorem kj_below {n0 n1 FB : Nat} {X Y : World} (h : Below X.heap.size X Y) (h0 : n0 ≤ X.heap.size) (h1 : n1 ≤ X.heap.size) : KJ n0 n1 FB X Y :=
  ⟨h.mono h0, fun k hk _ => h.block k (by omega), fun b cs hb => (h.block b (Array.getElem?_eq_some_iff.1 hb).1).trans hb⟩
theorem kj_b {n0 n1 FB : Nat} {w : World} (h0 : n0 ≤ w.heap.size) (h1 : n1 ≤ w.heap.size) (W : World) (l : Nat) (o o' : Obj) (hl : w.heap.size ≤ l) (h : W.heap[l]? = some o) (hc : o.isCells = false) (hw : o.isWalk = false) : KJ n0 n1 FB W (W.putObj l o') :=
  ⟨belowK_b h0 W l o o' hl h hc hw, fun k hk _ => World.putObj_heap_other (by omega), fun b cs hb => (World.putObj_heap_other (by intro e; subst e; rw [h] at hb; cases hb; cases hc)).trans hb⟩
theorem own_int {W W' : World} {B n : Nat} {v : Value} {xs : List Value} (h : W.ownsRow B inT 1 v n xs) (hk : ∀ (b : Nat) (cs : Array Value), W.heap[b]? = some (Obj.cells cs inT (0, 0)) → W'.heap[b]? = some (Obj.cells cs inT (0, 0))) : W'.ownsRow B inT 1 v n xs := by
  refine ⟨h.1, ?_⟩
  rcases h.2 with ⟨a, b⟩ | ⟨g, cap, cur, e, hB, hg, r⟩
  · exact .inl ⟨a, b⟩
  · exact .inr ⟨g, cap, cur, e, hB, hk g cur hg, r⟩

/-- all that the iterator reads -/
structure SD (wi : World) (n1 FB lo Bs Bm m1 m2 : Nat) (vl vs : Value) (V : Ky → Value) (L : Ky → List Nat) (most : Int) (W : World) : Prop where
  inp : Below wi.heap.size wi W
  le1 : n1 ≤ W.heap.size
  box : W.heap[Bs]? = some (.cells #[vl, vs, V .o, .map (some m1), V .m, V .l, .map (some m2)] srT (0, 0))
  bm : W.heap[Bm]? = some (.cells #[.int .i64 most] inT (0, 0))
  own : ∀ k, W.ownsRow lo inT 1 (V k) (L k).length (cellsR encN (L k))
  map1 : ∃ n g, MapS W m1 n g ∧ ∀ c, (g c).getD nilS = V (.f c)
  map2 : ∃ n g, MapS W m2 n g ∧ ∀ c, (g c).getD nilS = V (.t c)
  lts : Bs < n1 ∧ m1 < n1 ∧ m2 < n1 ∧ Bs ≠ FB ∧ m1 ≠ FB ∧ m2 ≠ FB ∧ wi.heap.size ≤ n1
section
variable {wi W W' : World} {n1 FB lo Bs Bm m1 m2 : Nat} {vl vs : Value} {V : Ky → Value} {L : Ky → List Nat} {most : Int}
theorem sd_step (h : SD wi n1 FB lo Bs Bm m1 m2 vl vs V L most W) (k : KJ wi.heap.size n1 FB W W') : SD wi n1 FB lo Bs Bm m1 m2 vl vs V L most W' := by
  obtain ⟨a1, g1, p1, e1⟩ := h.map1
  obtain ⟨a2, g2, p2, e2⟩ := h.map2
  obtain ⟨l1, l2, l3, l4, l5, l6, l7⟩ := h.lts
  exact ⟨h.inp.trans k.bel, Nat.le_trans h.le1 k.bel.size, (k.old Bs l1 l4).trans h.box, k.int _ _ h.bm, fun q => own_int (h.own q) k.int,
    ⟨a1, g1, p1.same (k.old m1 l2 l5), e1⟩, ⟨a2, g2, p2.same (k.old m2 l3 l6), e2⟩, h.lts⟩
theorem sd_more (h : SD wi n1 FB lo Bs Bm m1 m2 vl vs V L most W) (hb : Below W.heap.size W W') : SD wi n1 FB lo Bs Bm m1 m2 vl vs V L most W' :=
  sd_step h (kj_below hb h.inp.size h.le1)
theorem sd_rown (h : SD wi n1 FB lo Bs Bm m1 m2 vl vs V L most W) (k : Ky) : NmL W (V k) (L k) :=
  ROwn.rowL (e := inT) (B := 0) ⟨by
    refine ⟨(h.own k).1, ?_⟩
    rcases (h.own k).2 with ⟨a, b⟩ | ⟨g, cap, cur, e, hB, r⟩
    · exact .inl ⟨a, b⟩
    · exact .inr ⟨g, cap, cur, e, Nat.zero_le _, r⟩, Nat.zero_le _⟩ rtN.len
theorem sd_sq (h : SD wi n1 FB lo Bs Bm m1 m2 vl vs V L most W) : SQ W m1 m2 V L := ⟨sd_rown h, h.map1, h.map2⟩
theorem rown_any {B : Nat} {v : Value} {l : List Nat} (h : ROwn inT 1 encN B W v l) : ∃ A c, v = .slice A l.length c ∧ NmL W v l ∧ W.ownsRow B inT 1 v l.length (cellsR encN l) := by
  obtain ⟨A, c, e, _⟩ := h.rowL rtN.len
  exact ⟨A, c, e, h.rowL rtN.len, h.own⟩
theorem own_rowL {B : Nat} {v : Value} {l : List Nat} (h : W.ownsRow B inT 1 v l.length (cellsR encN l)) : NmL W v l :=
  ROwn.rowL (e := inT) (B := 0) ⟨by
    refine ⟨h.1, ?_⟩
    rcases h.2 with ⟨a, b⟩ | ⟨g, cap, cur, e, hB, r⟩
    · exact .inl ⟨a, b⟩
    · exact .inr ⟨g, cap, cur, e, Nat.zero_le _, r⟩, Nat.zero_le _⟩ rtN.len
end
def lss (l : List Pth) : List (List Nat) := l.map (·.l)
theorem lss_snoc (l : List Pth) (x : Pth) : lss (l ++ [x]) = lss l ++ [x.l] := by simp [lss]
theorem map_take {α β : Type} (f : α → β) (l : List α) (k : Nat) (x : α) (h : l[k]? = some x) : (l.take (k + 1)).map f = (l.take k).map f ++ [f x] := by
  rw [List.take_add_one, h, List.map_append]; rfl
theorem flat_take {α β : Type} (f : α → List β) (l : List α) (k : Nat) (x : α) (h : l[k]? = some x) : (l.take (k + 1)).flatMap f = (l.take k).flatMap f ++ f x := by
  rw [List.take_add_one, h, List.flatMap_append]; simp
theorem pre_flat {α β : Type} {f : α → List β} {l : List α} {k : Nat} {x : α} (h : l[k]? = some x) {u : List β} (hu : u <+: f x) : (l.take k).flatMap f ++ u <+: l.flatMap f := by
  obtain ⟨hlt, rfl⟩ := List.getElem?_eq_some_iff.1 h
  obtain ⟨t, ht⟩ := hu
  refine ⟨t ++ (l.drop (k + 1)).flatMap f, ?_⟩
  have e : l = l.take k ++ l[k] :: l.drop (k + 1) := by rw [List.getElem_cons_drop, List.take_append_drop]
  have e2 : l.flatMap f = (l.take k).flatMap f ++ (f l[k] ++ (l.drop (k + 1)).flatMap f) := by
    rw [← List.flatMap_cons, ← List.flatMap_append, ← e]
  rw [e2, ← ht]
  simp only [List.append_assoc]
theorem gv_new (w : World) (l : List Nat) {cs : Array Value} (hcs : cs = (cellsR encN l).toArray) : GvP ⟨w.heap.size, l.length, l⟩ (w.alloc (.cells cs inT)) := by
  subst hcs; exact heap_alloc_new w _


set_option maxRecDepth 100000 in
set_option maxHeartbeats 16000000 in
theorem paths1_in (lp : Nat) (wi : World) (n1 FB lo Bs Bm m1 m2 : Nat) (Al : Option Addr) (cl : Nat) (l : List Cn) (As : Option Addr) (cs : Nat) (S : List Sg) (fr dn : ByteArray) (V : Ky → Value) (most : Int)
    (J Jx : List Pth → World → Prop) (B0 : Nat) (hJa : AbidesFrom B0 J) (hl : CnL wi (.slice Al l.length cl) l) (hv : SgL wi (.slice As S.length cs) S)
    (hn : S.length ≤ 200) (hln : l.length ≤ 1000) (hz : ∀ s ∈ S, s.f.size ≤ maxLen ∧ s.t.size ≤ maxLen) (ht : ∀ s ∈ S, tmB s)
    (hY : ∀ pre x W, J pre W → GvP x W → YieldAt Fence.wide 8 Tryd.prog lp (encY x) W fun e W' =>
      (e = .returned (.bool true) ∧ J (pre ++ [x]) W' ∧ KJ wi.heap.size n1 FB W W') ∨ (e = .returned (.bool false) ∧ Jx (pre ++ [x]) W'))
    (W : World) (hD : SD wi n1 FB lo Bs Bm m1 m2 (.slice Al l.length cl) (.slice As S.length cs) V (kyL S fr dn S.length) most W) (h0 : J [] W) :
    CallsIn Fence.wide 9 Tryd.prog 34 #[.func (.yield lp) #[] #[], .pointer (some ⟨Bs, 0, none⟩), .pointer (some ⟨Bm, 0, none⟩)] W fun e W' => (∃ v, e = .returned v) ∧
      ((∃ ys : List Pth, lss ys = pathsP l S fr dn most ∧ J ys W') ∨ (∃ pre, lss pre <+: pathsP l S fr dn most ∧ Jx pre W')) := by
  refine callsIn_of_wp Tryd.func34 rfl trivial ?_ rfl
  simp only [Tryd.ntmps34, List.size_toArray, List.length_cons, List.length_nil, Nat.reduceAdd, Nat.reduceSub, Array.replicate_succ, Array.replicate_zero, List.push_toArray, List.append_toArray, List.nil_append, List.cons_append]
  have HD := Lib.hid hD
  have HY := Lib.hid hY
  have HL := Lib.hid hl
  have HV := Lib.hid hv
  have HT := Lib.hid ht
  have HZ := Lib.hid hz
  obtain ⟨ao, co, eo, _⟩ := sd_rown hD .o
  have q2 := (cell_of_row _ _ 2 _ _ (0, 0) hD.box).trans (show _ = some (V .o) from rfl)
  rw [eo] at q2
  have HLO := Lib.hid (fun i (hi : i ∈ kyL S fr dn S.length .o) => (ix_lt hi).1)
  have HPO : Hid (oneL S fr dn = (kyL S fr dn S.length .o).map fun i => [i]) := Lib.hid rfl
  have HPT : Hid (twoL l S fr dn = (kyL S fr dn S.length .l).flatMap fun k => twoP l S fr dn k) := Lib.hid rfl
  have HPM : Hid (triL l S fr dn = (kyL S fr dn S.length .m).flatMap fun k => midsP l S fr dn k) := Lib.hid rfl
  have HPP : Hid (pathsP l S fr dn most = oneL S fr dn ++ (if most < 2 then [] else twoL l S fr dn ++ (if most < 3 then [] else triL l S fr dn))) := Lib.hid rfl
  have HEO := Lib.hid eo
  have HLL := Lib.hid (fun k => kyL_len S fr dn S.length k)
  obtain ⟨no, hno⟩ : ∃ no, no = (kyL S fr dn S.length .o).length := ⟨_, rfl⟩
  rw [← hno] at q2
  have HNO := Lib.hid hno
  have hnb : no ≤ 200 := by rw [hno]; exact Nat.le_trans (HLL.out _) hn
  clear hD hY hl hv ht hz eo hno
  gi_wp2
  gi_loopw [20] (fun vi wr => ∃ (k : Nat) (pre : List Pth), k ≤ no ∧ vi = .int .i64 k ∧ Hid (lss pre = ((kyL S fr dn S.length .o).take k).map fun i => [i]) ∧ J pre wr ∧ Hid (SD wi n1 FB lo Bs Bm m1 m2 (.slice Al l.length cl) (.slice As S.length cs) V (kyL S fr dn S.length) most wr)) (fun vi _ => no - (intOf vi).toNat)
  case atStart => exact ⟨0, [], Nat.zero_le _, rfl, Lib.hid rfl, h0, HD⟩
  case round =>
    clear h0 HD q2
    obtain ⟨k, pre, hk, rfl, HP, hJ, HR⟩ := hrel
    by_cases hlt : k < no
    · have hlt2 : k < (kyL S fr dn S.length .o).length := by have := HNO.out; omega
      obtain ⟨i, hi⟩ : ∃ i, (kyL S fr dn S.length .o)[k]? = some i := ⟨_, List.getElem?_eq_getElem hlt2⟩
      have hrow := sd_rown HR.out .o
      rw [HEO.out] at hrow
      obtain ⟨b3, o3, e3, hb3, hc3⟩ := row_get hrow hi
      cases e3
      have r0 := hc3 0 _ rfl
      rw [Nat.add_zero, Nat.mul_one] at r0
      have HM := Lib.hid (map_take (fun i => [i]) _ _ _ hi)
      have HX1 : Hid (((kyL S fr dn S.length .o).take (k + 1)).map (fun i => [i]) <+: pathsP l S fr dn most) := Lib.hid (((List.take_prefix (k + 1) (kyL S fr dn S.length .o)).map (fun i => [i])).trans (by rw [HPP.out, HPO.out]; exact List.prefix_append _ _))
      have i3 : (k : Int) < (no : Int) := by omega
      have hbA := bel_alloc wr (.cells #[.int .i64 (i : Int)] inT)
      have hgA := gv_new wr [i] (cs := #[.int .i64 (i : Int)]) rfl
      obtain ⟨fn, tmps, assign, body, hy, hR⟩ := HY.out pre ⟨wr.heap.size, _, [i]⟩ _ (abide_below hJa hJ hbA) hgA
      dsimp only [encY] at hy
      simp only [List.length_cons, List.length_nil, Nat.zero_add, Nat.reduceAdd] at hy
      clear hc3 hb3 hrow hi
      have HJ2 := Lib.hid (fun W' (h : KJ wi.heap.size n1 FB _ W') => sd_step (sd_more HR.out hbA) h)
      clear hbA hgA
      gi_wp2
      refine hR.mono ?_
      rintro e W3 (⟨rfl, hJ3, hk3⟩ | ⟨rfl, hx⟩)
      · have HR3 := Lib.hid (HJ2.out _ hk3)
        gi_wp2
        go_roundw
        case rel => exact ⟨k + 1, _, by omega, by go_num, Lib.hid (by rw [lss_snoc, HP.out, HM.out]), hJ3, HR3⟩
        case measure => simp [intOf]; omega
      · gi_wp2
        refine bodyPost_ret (results_none rfl _ _ _) rfl ?_
        exact ⟨⟨_, rfl⟩, .inr ⟨_, by rw [lss_snoc, HP.out, ← HM.out]; exact HX1.out, hx⟩⟩
    · have e : k = no := by omega
      subst e
      have HP1 : Hid (lss pre = oneL S fr dn) := Lib.hid (by rw [HP.out, HPO.out, HNO.out, List.take_length])
      have i3 : ¬ (k : Int) < (k : Int) := by omega
      clear HP HPO HNO hk hnb HEO HLO hlt
      have t0 := (cell_of_row _ _ 0 _ _ (0, 0) HR.out.bm).trans (show _ = some (Value.int .i64 most) from rfl)
      by_cases hm : most < 2
      · have HPF : Hid (pathsP l S fr dn most = oneL S fr dn) := Lib.hid (by rw [HPP.out, if_pos hm, List.append_nil])
        gi_wp2
        refine bodyPost_ret (results_none rfl _ _ _) rfl ?_
        exact ⟨⟨_, rfl⟩, .inl ⟨pre, by rw [HP1.out, HPF.out], hJ⟩⟩
      have hm2 : 2 ≤ most := by omega
      have hm' : ¬ most < 2 := hm
      obtain ⟨al, cl', el, _⟩ := sd_rown HR.out .l
      have q5 := (cell_of_row _ _ 5 _ _ (0, 0) HR.out.box).trans (show _ = some (V .l) from rfl)
      rw [el] at q5
      have HEL := Lib.hid el
      obtain ⟨nl, hnl⟩ : ∃ nl, nl = (kyL S fr dn S.length .l).length := ⟨_, rfl⟩
      rw [← hnl] at q5
      have HNL := Lib.hid hnl
      have HLI := Lib.hid (fun i (hi : i ∈ kyL S fr dn S.length .l) => (ix_lt hi).1)
      have hnl2 : nl ≤ 200 := by rw [hnl]; exact Nat.le_trans (HLL.out _) hn
      clear el hnl
      gi_wp2
      gi_loopw [35] (fun vi wr => ∃ (k : Nat) (pre : List Pth), k ≤ nl ∧ vi = .int .i64 k ∧ Hid (lss pre = oneL S fr dn ++ ((kyL S fr dn S.length .l).take k).flatMap fun i => twoP l S fr dn i) ∧ J pre wr ∧ Hid (SD wi n1 FB lo Bs Bm m1 m2 (.slice Al l.length cl) (.slice As S.length cs) V (kyL S fr dn S.length) most wr)) (fun vi _ => nl - (intOf vi).toNat)
      case atStart => exact ⟨0, pre, Nat.zero_le _, rfl, Lib.hid (by rw [HP1.out]; simp), hJ, HR⟩
      case round =>
        clear hJ HR HP1 q5 t0
        obtain ⟨k, pre, hk, rfl, HP, hJ, HR⟩ := hrel
        by_cases hlt : k < nl
        · have hlt2 : k < (kyL S fr dn S.length .l).length := by have := HNL.out; omega
          obtain ⟨i, hi⟩ : ∃ i, (kyL S fr dn S.length .l)[k]? = some i := ⟨_, List.getElem?_eq_getElem hlt2⟩
          have hil := HLI.out i (List.mem_of_getElem? hi)
          have hrow := sd_rown HR.out .l
          rw [HEL.out] at hrow
          obtain ⟨b3, o3, e3, hb3, hc3⟩ := row_get hrow hi
          cases e3
          have r0 := hc3 0 _ rfl
          rw [Nat.add_zero, Nat.mul_one] at r0
          have HM := Lib.hid (flat_take (fun i => twoP l S fr dn i) _ _ _ hi)
          have HX2 : Hid (∀ u, u <+: twoP l S fr dn i → oneL S fr dn ++ ((kyL S fr dn S.length .l).take k).flatMap (fun i => twoP l S fr dn i) ++ u <+: pathsP l S fr dn most) := Lib.hid (fun u hu => by
            rw [HPP.out, if_neg (show ¬ most < 2 by omega), List.append_assoc]
            exact (List.prefix_append_right_inj _).2 ((pre_flat (f := fun i => twoP l S fr dn i) hi hu).trans (by rw [HPT.out]; exact List.prefix_append _ _)))
          have i3 : (k : Int) < (nl : Int) := by omega
          obtain ⟨bs0, bs1, bs2, bs3, bs4, bs5, bs6⟩ : wr.cell? ⟨Bs, 0, none⟩ = some (.slice Al l.length cl) ∧ wr.cell? ⟨Bs, 1, none⟩ = some (.slice As S.length cs) ∧ wr.cell? ⟨Bs, 2, none⟩ = some (V .o) ∧ wr.cell? ⟨Bs, 3, none⟩ = some (.map (some m1)) ∧ wr.cell? ⟨Bs, 4, none⟩ = some (V .m) ∧ wr.cell? ⟨Bs, 5, none⟩ = some (V .l) ∧ wr.cell? ⟨Bs, 6, none⟩ = some (.map (some m2)) :=
            ⟨cell_of_row _ _ 0 _ _ (0, 0) HR.out.box, cell_of_row _ _ 1 _ _ (0, 0) HR.out.box, cell_of_row _ _ 2 _ _ (0, 0) HR.out.box, cell_of_row _ _ 3 _ _ (0, 0) HR.out.box, cell_of_row _ _ 4 _ _ (0, 0) HR.out.box, cell_of_row _ _ 5 _ _ (0, 0) HR.out.box, cell_of_row _ _ 6 _ _ (0, 0) HR.out.box⟩
          have KB := Lib.hid (before_any Al cl l As cs S fr dn m1 m2 V i wr (HL.out.more HR.out.inp) (HV.out.more HR.out.inp) (sd_sq HR.out) hn hln HZ.out HT.out hil)
          clear hc3 hb3 hrow hi
          gi_wp2_with (gi_at_call 35; refine (callsIn_wide.2 KB.out).mono ?_; rintro e w1 ⟨v1, rfl, ⟨lo1, hO1⟩, hb1⟩; obtain ⟨A1, c1, rfl, hN1, hw1⟩ := rown_any hO1)
          have HR1 := Lib.hid (sd_more HR.out hb1)
          have hJ1 := abide_below hJa hJ hb1
          have HW1 := Lib.hid hw1
          have HTW : Hid (twoP l S fr dn i = (befP l S fr dn i).map fun f => [f, i]) := Lib.hid rfl
          clear hO1 hN1 hw1 hb1 hJ HR
          obtain ⟨nb, hnb⟩ : ∃ nb, nb = (befP l S fr dn i).length := ⟨_, rfl⟩
          simp only [← hnb]
          rw [← hnb] at HW1
          have HNB := Lib.hid hnb
          have hnb2 : nb ≤ 200 := by rw [hnb]; exact Nat.le_trans (List.length_filter_le _ _) (Nat.le_trans (HLL.out (.f _)) hn)
          clear hnb
          gi_loopw [43] (fun vi wr => ∃ (q : Nat) (pre : List Pth), q ≤ nb ∧ vi = .int .i64 q ∧ Hid (lss pre = oneL S fr dn ++ ((kyL S fr dn S.length .l).take k).flatMap (fun i => twoP l S fr dn i) ++ ((befP l S fr dn i).take q).map fun f => [f, i]) ∧ J pre wr ∧ Hid (SD wi n1 FB lo Bs Bm m1 m2 (.slice Al l.length cl) (.slice As S.length cs) V (kyL S fr dn S.length) most wr) ∧ Hid (wr.ownsRow lo1 inT 1 (.slice A1 nb c1) nb (cellsR encN (befP l S fr dn i)))) (fun vi _ => nb - (intOf vi).toNat)
          case atStart => exact ⟨0, pre, Nat.zero_le _, rfl, Lib.hid (by rw [HP.out]; simp), hJ1, HR1, HW1⟩
          case round =>
            clear hJ1 HR1 HW1 r0
            obtain ⟨q, pre, hq, rfl, HPQ, hJ, HR, HW⟩ := hrel
            by_cases hqt : q < nb
            · have hqt2 : q < (befP l S fr dn i).length := by have := HNB.out; omega
              obtain ⟨f, hf⟩ : ∃ f, (befP l S fr dn i)[q]? = some f := ⟨_, List.getElem?_eq_getElem hqt2⟩
              have hrow := own_rowL (show wr.ownsRow lo1 inT 1 (.slice A1 nb c1) (befP l S fr dn i).length _ by rw [← HNB.out]; exact HW.out)
              obtain ⟨b4, o4, e4, hb4, hc4⟩ := row_get hrow hf
              cases e4
              have r0 := hc4 0 _ rfl
              rw [Nat.add_zero, Nat.mul_one] at r0
              have HMQ := Lib.hid (map_take (fun f => [f, i]) _ _ _ hf)
              have i4 : (q : Int) < (nb : Int) := by omega
              have hbA := bel_alloc wr (.cells #[.int .i64 (f : Int), .int .i64 (i : Int)] inT)
              have hgA := gv_new wr [f, i] (cs := #[.int .i64 (f : Int), .int .i64 (i : Int)]) rfl
              obtain ⟨fn, tmps, assign, body, hy, hR⟩ := HY.out pre ⟨wr.heap.size, _, [f, i]⟩ _ (abide_below hJa hJ hbA) hgA
              dsimp only [encY] at hy
              simp only [List.length_cons, List.length_nil, Nat.zero_add, Nat.reduceAdd] at hy
              clear hc4 hb4 hrow hf
              have HJ2 := Lib.hid (fun W' (h : KJ wi.heap.size n1 FB _ W') => sd_step (sd_more HR.out hbA) h)
              have HW2 := Lib.hid (fun W' (h : KJ wi.heap.size n1 FB _ W') => own_int (own_more HW.out hbA) h.int)
              clear hbA hgA
              gi_wp2
              refine hR.mono ?_
              rintro e W3 (⟨rfl, hJ3, hk3⟩ | ⟨rfl, hx⟩)
              · have HR3 := Lib.hid (HJ2.out _ hk3)
                have HW3 := Lib.hid (HW2.out _ hk3)
                gi_wp2
                go_roundw
                case rel => exact ⟨q + 1, _, by omega, by go_num, Lib.hid (by rw [lss_snoc, HPQ.out, HMQ.out, List.append_assoc]), hJ3, HR3, HW3⟩
                case measure => simp [intOf]; omega
              · gi_wp2
                refine bodyPost_ret (results_none rfl _ _ _) rfl ?_
                exact ⟨⟨_, rfl⟩, .inr ⟨_, by rw [lss_snoc, HPQ.out, List.append_assoc _ _ [[f, i]], ← HMQ.out]; exact HX2.out _ (by rw [HTW.out]; exact (List.take_prefix _ _).map _), hx⟩⟩
            · have e : q = nb := by omega
              subst e
              have HP4 : Hid (lss pre = oneL S fr dn ++ ((kyL S fr dn S.length .l).take (k + 1)).flatMap fun i => twoP l S fr dn i) := Lib.hid (by rw [HPQ.out, HNB.out, List.take_length, HM.out, HTW.out, List.append_assoc])
              have i4 : ¬ (q : Int) < (q : Int) := by omega
              gi_wp2
              go_roundw
              case rel => exact ⟨k + 1, pre, by omega, by go_num, HP4, hJ, HR⟩
              case measure => simp [intOf]; omega
        · have e : k = nl := by omega
          subst e
          have HP2 : Hid (lss pre = oneL S fr dn ++ twoL l S fr dn) := Lib.hid (by rw [HP.out, HPT.out, HNL.out, List.take_length])
          have i3 : ¬ (k : Int) < (k : Int) := by omega
          clear HP HPT HNL hk HEL HLI hlt
          have t0 := (cell_of_row _ _ 0 _ _ (0, 0) HR.out.bm).trans (show _ = some (Value.int .i64 most) from rfl)
          by_cases hm3 : most < 3
          · have HPF : Hid (pathsP l S fr dn most = oneL S fr dn ++ twoL l S fr dn) := Lib.hid (by rw [HPP.out, if_neg (show ¬ most < 2 by omega), if_pos hm3, List.append_nil])
            gi_wp2
            refine bodyPost_ret (results_none rfl _ _ _) rfl ?_
            exact ⟨⟨_, rfl⟩, .inl ⟨pre, by rw [HP2.out, HPF.out], hJ⟩⟩
          have HPF : Hid (pathsP l S fr dn most = oneL S fr dn ++ twoL l S fr dn ++ triL l S fr dn) := Lib.hid (by rw [HPP.out, if_neg (show ¬ most < 2 by omega), if_neg (show ¬ most < 3 by omega), List.append_assoc])
          have hm4 : 3 ≤ most := by omega
          have hm5 : ¬ most < 3 := hm3
          obtain ⟨am, cm, em, _⟩ := sd_rown HR.out .m
          have q4 := (cell_of_row _ _ 4 _ _ (0, 0) HR.out.box).trans (show _ = some (V .m) from rfl)
          rw [em] at q4
          have HEM := Lib.hid em
          obtain ⟨nm, hnm⟩ : ∃ nm, nm = (kyL S fr dn S.length .m).length := ⟨_, rfl⟩
          rw [← hnm] at q4
          have HNM := Lib.hid hnm
          have HLI := Lib.hid (fun i (hi : i ∈ kyL S fr dn S.length .m) => (ix_lt hi).1)
          have hnm2 : nm ≤ 200 := by rw [hnm]; exact Nat.le_trans (HLL.out _) hn
          clear em hnm
          gi_wp2
          gi_loopw [60] (fun vi wr => ∃ (k : Nat) (pre : List Pth), k ≤ nm ∧ vi = .int .i64 k ∧ Hid (lss pre = oneL S fr dn ++ twoL l S fr dn ++ ((kyL S fr dn S.length .m).take k).flatMap fun i => midsP l S fr dn i) ∧ J pre wr ∧ Hid (SD wi n1 FB lo Bs Bm m1 m2 (.slice Al l.length cl) (.slice As S.length cs) V (kyL S fr dn S.length) most wr)) (fun vi _ => nm - (intOf vi).toNat)
          case atStart => exact ⟨0, pre, Nat.zero_le _, rfl, Lib.hid (by rw [HP2.out]; simp), hJ, HR⟩
          case round =>
            clear hJ HR HP2 q4 t0
            obtain ⟨k, pre, hk, rfl, HP, hJ, HR⟩ := hrel
            by_cases hlt : k < nm
            · have hlt2 : k < (kyL S fr dn S.length .m).length := by have := HNM.out; omega
              obtain ⟨i, hi⟩ : ∃ i, (kyL S fr dn S.length .m)[k]? = some i := ⟨_, List.getElem?_eq_getElem hlt2⟩
              have hil := HLI.out i (List.mem_of_getElem? hi)
              have hrow := sd_rown HR.out .m
              rw [HEM.out] at hrow
              obtain ⟨b3, o3, e3, hb3, hc3⟩ := row_get hrow hi
              cases e3
              have r0 := hc3 0 _ rfl
              rw [Nat.add_zero, Nat.mul_one] at r0
              have HM := Lib.hid (flat_take (fun i => midsP l S fr dn i) _ _ _ hi)
              have HX3 : Hid (∀ u, u <+: midsP l S fr dn i → oneL S fr dn ++ twoL l S fr dn ++ ((kyL S fr dn S.length .m).take k).flatMap (fun i => midsP l S fr dn i) ++ u <+: pathsP l S fr dn most) := Lib.hid (fun u hu => by
                rw [HPF.out, List.append_assoc _ _ u]
                exact (List.prefix_append_right_inj _).2 (by rw [HPM.out]; exact pre_flat (f := fun i => midsP l S fr dn i) hi hu))
              have i3 : (k : Int) < (nm : Int) := by omega
              obtain ⟨bs0, bs1, bs2, bs3, bs4, bs5, bs6⟩ : wr.cell? ⟨Bs, 0, none⟩ = some (.slice Al l.length cl) ∧ wr.cell? ⟨Bs, 1, none⟩ = some (.slice As S.length cs) ∧ wr.cell? ⟨Bs, 2, none⟩ = some (V .o) ∧ wr.cell? ⟨Bs, 3, none⟩ = some (.map (some m1)) ∧ wr.cell? ⟨Bs, 4, none⟩ = some (V .m) ∧ wr.cell? ⟨Bs, 5, none⟩ = some (V .l) ∧ wr.cell? ⟨Bs, 6, none⟩ = some (.map (some m2)) :=
                ⟨cell_of_row _ _ 0 _ _ (0, 0) HR.out.box, cell_of_row _ _ 1 _ _ (0, 0) HR.out.box, cell_of_row _ _ 2 _ _ (0, 0) HR.out.box, cell_of_row _ _ 3 _ _ (0, 0) HR.out.box, cell_of_row _ _ 4 _ _ (0, 0) HR.out.box, cell_of_row _ _ 5 _ _ (0, 0) HR.out.box, cell_of_row _ _ 6 _ _ (0, 0) HR.out.box⟩
              have KB := Lib.hid (after_any Al cl l As cs S fr dn m1 m2 V i wr (HL.out.more HR.out.inp) (HV.out.more HR.out.inp) (sd_sq HR.out) hn hln HZ.out HT.out hil)
              clear hc3 hb3 hrow hi
              have KN : Hid (∀ w1, Below wr.heap.size wr w1 → Calls Tryd.prog 35 #[.agg #[.slice Al l.length cl, .slice As S.length cs, V .o, .map (some m1), V .m, V .l, .map (some m2)], .int .i64 (i : Int)] w1 fun e w' => ∃ v, e = .returned v ∧ RowN w' v (befP l S fr dn i) ∧ Below w1.heap.size w1 w') :=
                Lib.hid (fun w1 h1 => before_any Al cl l As cs S fr dn m1 m2 V i w1 (HL.out.more (HR.out.inp.trans (h1.mono HR.out.inp.size))) (HV.out.more (HR.out.inp.trans (h1.mono HR.out.inp.size))) (sd_sq (sd_more HR.out h1)) hn hln HZ.out HT.out hil)
              gi_wp2_with (first
                | (gi_at_call 36; refine (callsIn_wide.2 KB.out).mono ?_; rintro e w0 ⟨v0, rfl, ⟨lo0, hO0⟩, hb0⟩; obtain ⟨A0, c0, rfl, hN0, hw0⟩ := rown_any hO0; have bs0 := bel_cell hb0 bs0; have bs1 := bel_cell hb0 bs1; have bs2 := bel_cell hb0 bs2; have bs3 := bel_cell hb0 bs3; have bs4 := bel_cell hb0 bs4; have bs5 := bel_cell hb0 bs5; have bs6 := bel_cell hb0 bs6)
                | (gi_at_call 35; refine (callsIn_wide.2 (KN.out _ hb0)).mono ?_; rintro e w1 ⟨v1, rfl, ⟨lo1, hO1⟩, hb1⟩; obtain ⟨A1, c1, rfl, hN1, hw1⟩ := rown_any hO1))
              have HR1 := Lib.hid (sd_more (sd_more HR.out hb0) hb1)
              have hJ1 := abide_below hJa (abide_below hJa hJ hb0) hb1
              have HW1 := Lib.hid hw1
              have HW0 := Lib.hid (own_more hw0 hb1)
              have HTM : Hid (midsP l S fr dn i = (befP l S fr dn i).flatMap fun f => triP l S fr dn i f) := Lib.hid rfl
              have HTR : Hid (∀ f, triP l S fr dn i f = (aftP l S fr dn i).map fun j => [f, i, j]) := Lib.hid (fun f => rfl)
              clear hO1 hN1 hw1 hb1 hO0 hN0 hw0 hb0 hJ HR KB KN bs0 bs1 bs2 bs3 bs4 bs5 bs6
              obtain ⟨nb, hnb⟩ : ∃ nb, nb = (befP l S fr dn i).length := ⟨_, rfl⟩
              obtain ⟨na, hna⟩ : ∃ na, na = (aftP l S fr dn i).length := ⟨_, rfl⟩
              simp only [← hnb, ← hna]
              rw [← hnb] at HW1
              rw [← hna] at HW0
              have HNB := Lib.hid hnb
              have HNA := Lib.hid hna
              have hnb2 : nb ≤ 200 := by rw [hnb]; exact Nat.le_trans (List.length_filter_le _ _) (Nat.le_trans (HLL.out (.f _)) hn)
              have hna2 : na ≤ 200 := by rw [hna]; exact Nat.le_trans (List.length_filter_le _ _) (Nat.le_trans (HLL.out (.t _)) hn)
              clear hnb hna
              gi_loopw [71] (fun vi wr => ∃ (q : Nat) (pre : List Pth), q ≤ nb ∧ vi = .int .i64 q ∧ Hid (lss pre = oneL S fr dn ++ twoL l S fr dn ++ ((kyL S fr dn S.length .m).take k).flatMap (fun i => midsP l S fr dn i) ++ ((befP l S fr dn i).take q).flatMap fun f => triP l S fr dn i f) ∧ J pre wr ∧ Hid (SD wi n1 FB lo Bs Bm m1 m2 (.slice Al l.length cl) (.slice As S.length cs) V (kyL S fr dn S.length) most wr) ∧ Hid (wr.ownsRow lo1 inT 1 (.slice A1 nb c1) nb (cellsR encN (befP l S fr dn i))) ∧ Hid (wr.ownsRow lo0 inT 1 (.slice A0 na c0) na (cellsR encN (aftP l S fr dn i)))) (fun vi _ => nb - (intOf vi).toNat)
              case atStart => exact ⟨0, pre, Nat.zero_le _, rfl, Lib.hid (by rw [HP.out]; simp), hJ1, HR1, HW1, HW0⟩
              case round =>
                clear hJ1 HR1 HW1 HW0 r0
                obtain ⟨q, pre, hq, rfl, HPQ, hJ, HR, HW, HWA⟩ := hrel
                by_cases hqt : q < nb
                · have hqt2 : q < (befP l S fr dn i).length := by have := HNB.out; omega
                  obtain ⟨f, hf⟩ : ∃ f, (befP l S fr dn i)[q]? = some f := ⟨_, List.getElem?_eq_getElem hqt2⟩
                  have hrow := own_rowL (show wr.ownsRow lo1 inT 1 (.slice A1 nb c1) (befP l S fr dn i).length _ by rw [← HNB.out]; exact HW.out)
                  obtain ⟨b4, o4, e4, hb4, hc4⟩ := row_get hrow hf
                  cases e4
                  have r0 := hc4 0 _ rfl
                  rw [Nat.add_zero, Nat.mul_one] at r0
                  have HMQ := Lib.hid (flat_take (fun f => triP l S fr dn i f) _ _ _ hf)
                  have HX4 : Hid (∀ u, u <+: triP l S fr dn i f → oneL S fr dn ++ twoL l S fr dn ++ ((kyL S fr dn S.length .m).take k).flatMap (fun i => midsP l S fr dn i) ++ ((befP l S fr dn i).take q).flatMap (fun f => triP l S fr dn i f) ++ u <+: pathsP l S fr dn most) := Lib.hid (fun u hu => by
                    have h := HX3.out (((befP l S fr dn i).take q).flatMap (fun f => triP l S fr dn i f) ++ u) (by rw [HTM.out]; exact pre_flat (f := fun f => triP l S fr dn i f) hf hu)
                    rw [← List.append_assoc] at h
                    exact h)
                  have i4 : (q : Int) < (nb : Int) := by omega
                  clear hc4 hb4 hrow hf
                  gi_wp2
                  gi_loopw [77] (fun vi wr => ∃ (u : Nat) (pre : List Pth), u ≤ na ∧ vi = .int .i64 u ∧ Hid (lss pre = oneL S fr dn ++ twoL l S fr dn ++ ((kyL S fr dn S.length .m).take k).flatMap (fun i => midsP l S fr dn i) ++ ((befP l S fr dn i).take q).flatMap (fun f => triP l S fr dn i f) ++ ((aftP l S fr dn i).take u).map fun j => [f, i, j]) ∧ J pre wr ∧ Hid (SD wi n1 FB lo Bs Bm m1 m2 (.slice Al l.length cl) (.slice As S.length cs) V (kyL S fr dn S.length) most wr) ∧ Hid (wr.ownsRow lo1 inT 1 (.slice (some ⟨b4, o4, none⟩) nb c1) nb (cellsR encN (befP l S fr dn i))) ∧ Hid (wr.ownsRow lo0 inT 1 (.slice A0 na c0) na (cellsR encN (aftP l S fr dn i)))) (fun vi _ => na - (intOf vi).toNat)
                  case atStart => exact ⟨0, pre, Nat.zero_le _, rfl, Lib.hid (by rw [HPQ.out]; simp), hJ, HR, HW, HWA⟩
                  case round =>
                    clear hJ HR HW HWA r0
                    obtain ⟨u, pre, hu, rfl, HPU, hJ, HR, HW, HWA⟩ := hrel
                    by_cases hut : u < na
                    · have hut2 : u < (aftP l S fr dn i).length := by have := HNA.out; omega
                      obtain ⟨j, hj⟩ : ∃ j, (aftP l S fr dn i)[u]? = some j := ⟨_, List.getElem?_eq_getElem hut2⟩
                      have hrow := own_rowL (show wr.ownsRow lo0 inT 1 (.slice A0 na c0) (aftP l S fr dn i).length _ by rw [← HNA.out]; exact HWA.out)
                      obtain ⟨b5, o5, e5, hb5, hc5⟩ := row_get hrow hj
                      cases e5
                      have r0 := hc5 0 _ rfl
                      rw [Nat.add_zero, Nat.mul_one] at r0
                      have HMU := Lib.hid (map_take (fun j => [f, i, j]) _ _ _ hj)
                      have i5 : (u : Int) < (na : Int) := by omega
                      have hbA := bel_alloc wr (.cells #[.int .i64 (f : Int), .int .i64 (i : Int), .int .i64 (j : Int)] inT)
                      have hgA := gv_new wr [f, i, j] (cs := #[.int .i64 (f : Int), .int .i64 (i : Int), .int .i64 (j : Int)]) rfl
                      obtain ⟨fn, tmps, assign, body, hy, hR⟩ := HY.out pre ⟨wr.heap.size, _, [f, i, j]⟩ _ (abide_below hJa hJ hbA) hgA
                      dsimp only [encY] at hy
                      simp only [List.length_cons, List.length_nil, Nat.zero_add, Nat.reduceAdd] at hy
                      clear hc5 hb5 hrow hj
                      have HJ2 := Lib.hid (fun W' (h : KJ wi.heap.size n1 FB _ W') => sd_step (sd_more HR.out hbA) h)
                      have HW2 := Lib.hid (fun W' (h : KJ wi.heap.size n1 FB _ W') => own_int (own_more HW.out hbA) h.int)
                      have HW4 := Lib.hid (fun W' (h : KJ wi.heap.size n1 FB _ W') => own_int (own_more HWA.out hbA) h.int)
                      clear hbA hgA
                      gi_wp2
                      refine hR.mono ?_
                      rintro e W3 (⟨rfl, hJ3, hk3⟩ | ⟨rfl, hx⟩)
                      · have HR3 := Lib.hid (HJ2.out _ hk3)
                        have HW3 := Lib.hid (HW2.out _ hk3)
                        have HW5 := Lib.hid (HW4.out _ hk3)
                        gi_wp2
                        go_roundw
                        case rel => exact ⟨u + 1, _, by omega, by go_num, Lib.hid (by rw [lss_snoc, HPU.out, HMU.out, List.append_assoc]), hJ3, HR3, HW3, HW5⟩
                        case measure => simp [intOf]; omega
                      · gi_wp2
                        refine bodyPost_ret (results_none rfl _ _ _) rfl ?_
                        exact ⟨⟨_, rfl⟩, .inr ⟨_, by rw [lss_snoc, HPU.out, List.append_assoc _ _ [[f, i, j]], ← HMU.out]; exact HX4.out _ (by rw [HTR.out]; exact (List.take_prefix _ _).map _), hx⟩⟩
                    · have e : u = na := by omega
                      subst e
                      have HP6 : Hid (lss pre = oneL S fr dn ++ twoL l S fr dn ++ ((kyL S fr dn S.length .m).take k).flatMap (fun i => midsP l S fr dn i) ++ ((befP l S fr dn i).take (q + 1)).flatMap fun f => triP l S fr dn i f) := Lib.hid (by rw [HPU.out, HNA.out, List.take_length, HMQ.out, HTR.out, List.append_assoc])
                      have i5 : ¬ (u : Int) < (u : Int) := by omega
                      gi_wp2
                      go_roundw
                      case rel => exact ⟨q + 1, pre, by omega, by go_num, HP6, hJ, HR, HW, HWA⟩
                      case measure => simp [intOf]; omega
                · have e : q = nb := by omega
                  subst e
                  have HP4 : Hid (lss pre = oneL S fr dn ++ twoL l S fr dn ++ ((kyL S fr dn S.length .m).take (k + 1)).flatMap fun i => midsP l S fr dn i) := Lib.hid (by rw [HPQ.out, HNB.out, List.take_length, HM.out, HTM.out, List.append_assoc])
                  have i4 : ¬ (q : Int) < (q : Int) := by omega
                  gi_wp2
                  go_roundw
                  case rel => exact ⟨k + 1, pre, by omega, by go_num, HP4, hJ, HR⟩
                  case measure => simp [intOf]; omega
            · have e : k = nm := by omega
              subst e
              have i3 : ¬ (k : Int) < (k : Int) := by omega
              gi_wp2
              go_end0
              exact ⟨⟨_, rfl⟩, .inl ⟨pre, by rw [HP.out, HPF.out, HPM.out, HNM.out, List.take_length], hJ⟩⟩
/-- the contract of the iterator's value -/
theorem paths_stops (wi : World) (n1 FB lo Bs Bm m1 m2 : Nat) (Al : Option Addr) (cl : Nat) (l : List Cn) (As : Option Addr) (cs : Nat) (S : List Sg) (fr dn : ByteArray) (V : Ky → Value) (most : Int)
    (hl : CnL wi (.slice Al l.length cl) l) (hv : SgL wi (.slice As S.length cs) S) (hn : S.length ≤ 200) (hln : l.length ≤ 1000) (hz : ∀ s ∈ S, s.f.size ≤ maxLen ∧ s.t.size ≤ maxLen) (ht : ∀ s ∈ S, tmB s) (w : World)
    (hD : SD wi n1 FB lo Bs Bm m1 m2 (.slice Al l.length cl) (.slice As S.length cs) V (kyL S fr dn S.length) most w) :
    SeqGv Fence.wide 9 Tryd.prog 34 #[.pointer (some ⟨Bs, 0, none⟩), .pointer (some ⟨Bm, 0, none⟩)] encY (KJ wi.heap.size n1 FB) GvP (fun ys => lss ys = pathsP l S fr dn most) (fun pre => lss pre <+: pathsP l S fr dn most) w := fun lp J Jx W hW hJ _ hY h0 =>
  paths1_in lp wi n1 FB lo Bs Bm m1 m2 Al cl l As cs S fr dn V most J Jx W.heap.size hJ hl hv hn hln hz ht hY W (sd_more hD hW) h0

end Go.Proofs.YtkcdifanhdakhaaDoor.Con
