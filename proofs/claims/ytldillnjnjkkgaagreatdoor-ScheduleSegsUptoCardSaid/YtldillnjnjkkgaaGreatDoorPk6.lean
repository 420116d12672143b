/- Words and walks that the laws below ask: SgB. -/
import Derived.BigRegion
import Derived.Test.YtldillnjnjkkgaaGreatDoorPk5
/- Segments as plain data; walk of the reference's seg. -/
namespace Go.Proofs.YtldillnjnjkkgaaGreatDoor
open Go.RowKit Go.Shelf
set_option linter.unusedSimpArgs false
set_option linter.unusedVariables false

/-- a segment -/
structure Sg where
  car : ByteArray
  num : Int
  day : Int
  f : ByteArray
  t : ByteArray
  dep : Int
  arr : Int
abbrev segT : TypeId := 50
def encSg (s : Sg) : List Value := [.string s.car, .int .i64 s.num, .int .i64 s.day, .string s.f, .string s.t, .int .i64 s.dep, .int .i64 s.arr]
abbrev encS7 (s : Sg) : Value := .agg #[.string s.car, .int .i64 s.num, .int .i64 s.day, .string s.f, .string s.t, .int .i64 s.dep, .int .i64 s.arr]
theorem rtG : RT Tryz.prog 58 segT 7 encSg where
  ht := Tryz.underlying58
  info := ⟨.agg #[.string noB, .int .i64 0, .int .i64 0, .string noB, .string noB, .int .i64 0, .int .i64 0], 80, by kernel_rfl, rfl, by omega⟩
  len x := rfl
  one x u hu := by simp [encSg] at hu; rcases hu with rfl | rfl | rfl | rfl | rfl | rfl | rfl <;> rfl
  pos := by omega
/-- the segment from leg a to leg b -/
def sgOf (a b : Dt) : Sg := ⟨a.car, a.num, a.day, a.f, b.t, a.dep, b.arr⟩
/-- the segments of the first i legs -/
def segsI (L : List Dt) (i : Nat) : List Sg := (List.range i).flatMap fun j => match L[j]? with
  | some a => (L.drop j).map (sgOf a)
  | none => []
def segsL (L : List Dt) : List Sg := segsI L L.length
theorem segsI_succ {L : List Dt} {i : Nat} {a : Dt} (h : L[i]? = some a) : segsI L (i + 1) = segsI L i ++ (L.drop i).map (sgOf a) := by
  simp [segsI, List.range_succ, h]
theorem segsI_le (L : List Dt) : ∀ i, (segsI L i).length ≤ i * L.length
  | 0 => by simp [segsI]
  | i + 1 => by
    have ih := segsI_le L i
    have e : segsI L (i + 1) = segsI L i ++ (match L[i]? with | some a => (L.drop i).map (sgOf a) | none => []) := by simp [segsI, List.range_succ]
    rw [e, List.length_append, Nat.add_mul]
    cases L[i]? with
    | none => simp; omega
    | some a => simp; omega
theorem RowL.at8 {w : World} {A : Option Addr} {n c : Nat} {L : List Dt} (h : RowL 8 encDt w (.slice A n c) L) {k : Nat} {y : Dt} (hk : L[k]? = some y) : ∃ b o, A = some ⟨b, o, none⟩ ∧ b < w.heap.size ∧ ∀ j u, (encDt y)[j]? = some u → w.cell? ⟨b, o + k * 8 + j, none⟩ = some u := by
  obtain ⟨hlt, rfl⟩ := List.getElem?_eq_some_iff.1 hk
  obtain ⟨b, o, h1, h2, h3⟩ := h.at rfl hlt
  exact ⟨b, o, h1, h2, h3⟩

/-- seven stores into a block of a segment -/
def S7 (w : World) (N : Nat) (v0 v1 v2 v3 v4 v5 v6 : Value) : World := ((((((w.setCell ⟨N, 0, none⟩ v0).setCell ⟨N, 1, none⟩ v1).setCell ⟨N, 2, none⟩ v2).setCell ⟨N, 3, none⟩ v3).setCell ⟨N, 4, none⟩ v4).setCell ⟨N, 5, none⟩ v5).setCell ⟨N, 6, none⟩ v6
theorem S7.heap {w : World} {N : Nat} {a0 a1 a2 a3 a4 a5 a6 : Value} (h : w.heap[N]? = some (.cells #[a0, a1, a2, a3, a4, a5, a6] segT (0, 0))) (v0 v1 v2 v3 v4 v5 v6 : Value) : (S7 w N v0 v1 v2 v3 v4 v5 v6).heap[N]? = some (.cells #[v0, v1, v2, v3, v4, v5, v6] segT (0, 0)) := by
  have e1 : (w.setCell ⟨N, 0, none⟩ v0).heap[N]? = some (.cells #[v0, a1, a2, a3, a4, a5, a6] segT (0, 0)) := heap_setCell_same w N 0 _ segT v0 h
  have e2 : ((w.setCell ⟨N, 0, none⟩ v0).setCell ⟨N, 1, none⟩ v1).heap[N]? = some (.cells #[v0, v1, a2, a3, a4, a5, a6] segT (0, 0)) := heap_setCell_same (w.setCell ⟨N, 0, none⟩ v0) N 1 _ segT v1 e1
  have e3 : (((w.setCell ⟨N, 0, none⟩ v0).setCell ⟨N, 1, none⟩ v1).setCell ⟨N, 2, none⟩ v2).heap[N]? = some (.cells #[v0, v1, v2, a3, a4, a5, a6] segT (0, 0)) := heap_setCell_same ((w.setCell ⟨N, 0, none⟩ v0).setCell ⟨N, 1, none⟩ v1) N 2 _ segT v2 e2
  have e4 : ((((w.setCell ⟨N, 0, none⟩ v0).setCell ⟨N, 1, none⟩ v1).setCell ⟨N, 2, none⟩ v2).setCell ⟨N, 3, none⟩ v3).heap[N]? = some (.cells #[v0, v1, v2, v3, a4, a5, a6] segT (0, 0)) := heap_setCell_same (((w.setCell ⟨N, 0, none⟩ v0).setCell ⟨N, 1, none⟩ v1).setCell ⟨N, 2, none⟩ v2) N 3 _ segT v3 e3
  have e5 : (((((w.setCell ⟨N, 0, none⟩ v0).setCell ⟨N, 1, none⟩ v1).setCell ⟨N, 2, none⟩ v2).setCell ⟨N, 3, none⟩ v3).setCell ⟨N, 4, none⟩ v4).heap[N]? = some (.cells #[v0, v1, v2, v3, v4, a5, a6] segT (0, 0)) := heap_setCell_same ((((w.setCell ⟨N, 0, none⟩ v0).setCell ⟨N, 1, none⟩ v1).setCell ⟨N, 2, none⟩ v2).setCell ⟨N, 3, none⟩ v3) N 4 _ segT v4 e4
  have e6 : ((((((w.setCell ⟨N, 0, none⟩ v0).setCell ⟨N, 1, none⟩ v1).setCell ⟨N, 2, none⟩ v2).setCell ⟨N, 3, none⟩ v3).setCell ⟨N, 4, none⟩ v4).setCell ⟨N, 5, none⟩ v5).heap[N]? = some (.cells #[v0, v1, v2, v3, v4, v5, a6] segT (0, 0)) := heap_setCell_same (((((w.setCell ⟨N, 0, none⟩ v0).setCell ⟨N, 1, none⟩ v1).setCell ⟨N, 2, none⟩ v2).setCell ⟨N, 3, none⟩ v3).setCell ⟨N, 4, none⟩ v4) N 5 _ segT v5 e5
  have e7 : (((((((w.setCell ⟨N, 0, none⟩ v0).setCell ⟨N, 1, none⟩ v1).setCell ⟨N, 2, none⟩ v2).setCell ⟨N, 3, none⟩ v3).setCell ⟨N, 4, none⟩ v4).setCell ⟨N, 5, none⟩ v5).setCell ⟨N, 6, none⟩ v6).heap[N]? = some (.cells #[v0, v1, v2, v3, v4, v5, v6] segT (0, 0)) := heap_setCell_same ((((((w.setCell ⟨N, 0, none⟩ v0).setCell ⟨N, 1, none⟩ v1).setCell ⟨N, 2, none⟩ v2).setCell ⟨N, 3, none⟩ v3).setCell ⟨N, 4, none⟩ v4).setCell ⟨N, 5, none⟩ v5) N 6 _ segT v6 e6
  exact e7
theorem S7.but (w : World) (N : Nat) (v0 v1 v2 v3 v4 v5 v6 : Value) : But w (S7 w N v0 v1 v2 v3 v4 v5 v6) (fun k => k = N) :=
  ((((((But.setCell w N 0 v0).trans (But.setCell _ N 1 v1) (fun _ _ h => h)).trans (But.setCell _ N 2 v2) (fun _ _ h => h)).trans (But.setCell _ N 3 v3) (fun _ _ h => h)).trans (But.setCell _ N 4 v4) (fun _ _ h => h)).trans (But.setCell _ N 5 v5) (fun _ _ h => h)).trans (But.setCell _ N 6 v6) (fun _ _ h => h)

set_option maxRecDepth 100000 in
set_option maxHeartbeats 8000000 in
theorem rseg_any (A : Option Addr) (c : Nat) (L : List Dt) (i k : Nat) (a b : Dt) (w : World) (hn : L.length ≤ 1000) (hv : RowL 8 encDt w (.slice A L.length c) L) (hi : L[i]? = some a) (hk : L[k]? = some b) :
    Calls Tryz.prog 169 #[.slice A L.length c, .int .i64 (i : Int), .int .i64 (k : Int)] w fun e w' => e = .returned (encS7 (sgOf a b)) ∧ Below w.heap.size w w' := by
  have hil := (List.getElem?_eq_some_iff.1 hi).1
  have hkl := (List.getElem?_eq_some_iff.1 hk).1
  have hb0 := bel_alloc w (.cells #[.string noB, .int .i64 0, .int .i64 0, .string noB, .string noB, .int .i64 0, .int .i64 0] segT)
  have hN := heap_alloc_new w (.cells #[.string noB, .int .i64 0, .int .i64 0, .string noB, .string noB, .int .i64 0, .int .i64 0] segT)
  obtain ⟨g, o, rfl, hgl, ca⟩ := RowL.at8 (hv.more hb0) hi
  obtain ⟨g', o', e, hgl', cb⟩ := RowL.at8 (hv.more hb0) hk
  cases e
  have i1 : (i : Int) < (L.length : Int) := by omega
  have i2 : (k : Int) < (L.length : Int) := by omega
  have a0 := ca 0 _ rfl
  have a1 := ca 1 _ rfl
  have a2 := ca 2 _ rfl
  have a3 := ca 3 _ rfl
  have a5 := ca 5 _ rfl
  have b4 := cb 4 _ rfl
  have b6 := cb 6 _ rfl
  rw [Nat.add_zero] at a0
  clear ca cb hi hk hv
  go_enter Tryz.func169, Tryz.ntmps169
  go_upto_region 1 with fail
  have n0 := (cell_of_row _ _ 0 _ _ (0, 0) hN).trans (show _ = some _ from rfl)
  have n1 := (cell_of_row _ _ 1 _ _ (0, 0) hN).trans (show _ = some _ from rfl)
  have n2 := (cell_of_row _ _ 2 _ _ (0, 0) hN).trans (show _ = some _ from rfl)
  have n3 := (cell_of_row _ _ 3 _ _ (0, 0) hN).trans (show _ = some _ from rfl)
  have n4 := (cell_of_row _ _ 4 _ _ (0, 0) hN).trans (show _ = some _ from rfl)
  have n5 := (cell_of_row _ _ 5 _ _ (0, 0) hN).trans (show _ = some _ from rfl)
  have n6 := (cell_of_row _ _ 6 _ _ (0, 0) hN).trans (show _ = some _ from rfl)
  have z0 := frozen_of_row _ _ 0 _ _ hN
  have z1 := frozen_of_row _ _ 1 _ _ hN
  have z2 := frozen_of_row _ _ 2 _ _ hN
  have z3 := frozen_of_row _ _ 3 _ _ hN
  have z4 := frozen_of_row _ _ 4 _ _ hN
  have z5 := frozen_of_row _ _ 5 _ _ hN
  have z6 := frozen_of_row _ _ 6 _ _ hN
  generalize hw5 : w.alloc (.cells #[.string noB, .int .i64 0, .int .i64 0, .string noB, .string noB, .int .i64 0, .int .i64 0] segT) = w5 at *
  clear hw5
  have HN := Lib.hid hN
  clear hN
  obtain ⟨W7, hW7⟩ : ∃ W, W = S7 w5 w.heap.size (.string a.car) (.int .i64 a.num) (.int .i64 a.day) (.string a.f) (.string b.t) (.int .i64 a.dep) (.int .i64 b.arr) := ⟨_, rfl⟩
  have hx : W7.heap[w.heap.size]? = some (.cells #[.string a.car, .int .i64 a.num, .int .i64 a.day, .string a.f, .string b.t, .int .i64 a.dep, .int .i64 b.arr] segT (0, 0)) := by rw [hW7]; exact S7.heap HN.out _ _ _ _ _ _ _
  have hbt : But w5 W7 (fun k => k = w.heap.size) := by rw [hW7]; exact S7.but _ _ _ _ _ _ _ _ _
  have hbw : Below w.heap.size w W7.drew := (hb0.trans (hbt.below hb0.size (fun k hk => by omega))).drew
  have hxd : W7.drew.heap[w.heap.size]? = some (.cells #[.string a.car, .int .i64 a.num, .int .i64 a.day, .string a.f, .string b.t, .int .i64 a.dep, .int .i64 b.arr] segT (0, 0)) := hx
  have HW := Lib.hid hW7
  have HX := Lib.hid hxd
  have HBW := Lib.hid hbw
  clear hW7 hx hxd hbw hbt
  go_region
  clear n0 n1 n2 n3 n4 n5 n6 z0 z1 z2 z3 z4 z5 z6 a0 a1 a2 a3 a5 b4 b6
  have hq : S7 w5 w.heap.size (.string a.car) (.int .i64 a.num) (.int .i64 a.day) (.string a.f) (.string b.t) (.int .i64 a.dep) (.int .i64 b.arr) = W7 := HW.out.symm
  unfold S7 at hq
  rw [hq]
  clear hq
  have hx := HX.out
  generalize W7.drew = W at *
  have c0 := (cell_of_row W _ 0 _ _ (0, 0) hx).trans (show _ = some _ from rfl)
  have c1 := (cell_of_row W _ 1 _ _ (0, 0) hx).trans (show _ = some _ from rfl)
  have c2 := (cell_of_row W _ 2 _ _ (0, 0) hx).trans (show _ = some _ from rfl)
  have c3 := (cell_of_row W _ 3 _ _ (0, 0) hx).trans (show _ = some _ from rfl)
  have c4 := (cell_of_row W _ 4 _ _ (0, 0) hx).trans (show _ = some _ from rfl)
  have c5 := (cell_of_row W _ 5 _ _ (0, 0) hx).trans (show _ = some _ from rfl)
  have c6 := (cell_of_row W _ 6 _ _ (0, 0) hx).trans (show _ = some _ from rfl)
  clear hx
  go_wp2
  refine bodyPost_ret (v := encS7 (sgOf a b)) ?_ rfl ⟨rfl, HBW.out⟩
  simp [results, Tryz.results169, go_sem, c0, c1, c2, c3, c4, c5, c6, sgOf]
end Go.Proofs.YtldillnjnjkkgaaGreatDoor
