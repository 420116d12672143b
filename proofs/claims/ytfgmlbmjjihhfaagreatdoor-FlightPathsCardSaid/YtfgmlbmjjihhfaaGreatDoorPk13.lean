/- Words and walks that the laws below ask: SgB, SgC, SgD, SgE. -/
import Derived.BigRegion
import Derived.Test.YtfgmlbmjjihhfaaGreatDoorPk9
import Derived.Test.YtfgmlbmjjihhfaaGreatDoorPk11
import Derived.Test.YtfgmlbmjjihhfaaGreatDoorPk12
/- Segments as plain data; walk of the reference's seg. -/
namespace Go.Proofs.YtfgmlbmjjihhfaaGreatDoor
open Go.RowKit Go.Shelf
set_option linter.unusedSimpArgs false
set_option linter.unusedVariables false

/-- a segment -/
structure Sg where
  car : ByteArray
  num : Int
  day : Int
  f : ByteArray
  t : ByteArray
  dep : Int
  arr : Int
abbrev segT : TypeId := 47
def encSg (s : Sg) : List Value := [.string s.car, .int .i64 s.num, .int .i64 s.day, .string s.f, .string s.t, .int .i64 s.dep, .int .i64 s.arr]
abbrev encS7 (s : Sg) : Value := .agg #[.string s.car, .int .i64 s.num, .int .i64 s.day, .string s.f, .string s.t, .int .i64 s.dep, .int .i64 s.arr]
theorem rtG : RT Tryz.prog 41 segT 7 encSg where
  ht := Tryz.underlying41
  info := ⟨.agg #[.string noB, .int .i64 0, .int .i64 0, .string noB, .string noB, .int .i64 0, .int .i64 0], 80, by kernel_rfl, rfl, by omega⟩
  len x := rfl
  one x u hu := by simp [encSg] at hu; rcases hu with rfl | rfl | rfl | rfl | rfl | rfl | rfl <;> rfl
  pos := by omega
/-- the segment from leg a to leg b -/
def sgOf (a b : Dt) : Sg := ⟨a.car, a.num, a.day, a.f, b.t, a.dep, b.arr⟩
/-- the segments of the first i legs -/
def segsI (L : List Dt) (i : Nat) : List Sg := (List.range i).flatMap fun j => match L[j]? with
  | some a => (L.drop j).map (sgOf a)
  | none => []
def segsL (L : List Dt) : List Sg := segsI L L.length
theorem segsI_succ {L : List Dt} {i : Nat} {a : Dt} (h : L[i]? = some a) : segsI L (i + 1) = segsI L i ++ (L.drop i).map (sgOf a) := by
  simp [segsI, List.range_succ, h]
theorem segsI_le (L : List Dt) : ∀ i, (segsI L i).length ≤ i * L.length
  | 0 => by simp [segsI]
  | i + 1 => by
    have ih := segsI_le L i
    have e : segsI L (i + 1) = segsI L i ++ (match L[i]? with | some a => (L.drop i).map (sgOf a) | none => []) := by simp [segsI, List.range_succ]
    rw [e, List.length_append, Nat.add_mul]
    cases L[i]? with
    | none => simp; omega
    | some a => simp; omega
theorem RowL.at8 {w : World} {A : Option Addr} {n c : Nat} {L : List Dt} (h : RowL 8 encDt w (.slice A n c) L) {k : Nat} {y : Dt} (hk : L[k]? = some y) : ∃ b o, A = some ⟨b, o, none⟩ ∧ b < w.heap.size ∧ ∀ j u, (encDt y)[j]? = some u → w.cell? ⟨b, o + k * 8 + j, none⟩ = some u := by
  obtain ⟨hlt, rfl⟩ := List.getElem?_eq_some_iff.1 hk
  obtain ⟨b, o, h1, h2, h3⟩ := h.at rfl hlt
  exact ⟨b, o, h1, h2, h3⟩

/-- seven stores into a block of a segment -/
def S7 (w : World) (N : Nat) (v0 v1 v2 v3 v4 v5 v6 : Value) : World := ((((((w.setCell ⟨N, 0, none⟩ v0).setCell ⟨N, 1, none⟩ v1).setCell ⟨N, 2, none⟩ v2).setCell ⟨N, 3, none⟩ v3).setCell ⟨N, 4, none⟩ v4).setCell ⟨N, 5, none⟩ v5).setCell ⟨N, 6, none⟩ v6
theorem S7.heap {w : World} {N : Nat} {a0 a1 a2 a3 a4 a5 a6 : Value} (h : w.heap[N]? = some (.cells #[a0, a1, a2, a3, a4, a5, a6] segT (0, 0))) (v0 v1 v2 v3 v4 v5 v6 : Value) : (S7 w N v0 v1 v2 v3 v4 v5 v6).heap[N]? = some (.cells #[v0, v1, v2, v3, v4, v5, v6] segT (0, 0)) := by
  have e1 : (w.setCell ⟨N, 0, none⟩ v0).heap[N]? = some (.cells #[v0, a1, a2, a3, a4, a5, a6] segT (0, 0)) := heap_setCell_same w N 0 _ segT v0 h
  have e2 : ((w.setCell ⟨N, 0, none⟩ v0).setCell ⟨N, 1, none⟩ v1).heap[N]? = some (.cells #[v0, v1, a2, a3, a4, a5, a6] segT (0, 0)) := heap_setCell_same (w.setCell ⟨N, 0, none⟩ v0) N 1 _ segT v1 e1
  have e3 : (((w.setCell ⟨N, 0, none⟩ v0).setCell ⟨N, 1, none⟩ v1).setCell ⟨N, 2, none⟩ v2).heap[N]? = some (.cells #[v0, v1, v2, a3, a4, a5, a6] segT (0, 0)) := heap_setCell_same ((w.setCell ⟨N, 0, none⟩ v0).setCell ⟨N, 1, none⟩ v1) N 2 _ segT v2 e2
  have e4 : ((((w.setCell ⟨N, 0, none⟩ v0).setCell ⟨N, 1, none⟩ v1).setCell ⟨N, 2, none⟩ v2).setCell ⟨N, 3, none⟩ v3).heap[N]? = some (.cells #[v0, v1, v2, v3, a4, a5, a6] segT (0, 0)) := heap_setCell_same (((w.setCell ⟨N, 0, none⟩ v0).setCell ⟨N, 1, none⟩ v1).setCell ⟨N, 2, none⟩ v2) N 3 _ segT v3 e3
  have e5 : (((((w.setCell ⟨N, 0, none⟩ v0).setCell ⟨N, 1, none⟩ v1).setCell ⟨N, 2, none⟩ v2).setCell ⟨N, 3, none⟩ v3).setCell ⟨N, 4, none⟩ v4).heap[N]? = some (.cells #[v0, v1, v2, v3, v4, a5, a6] segT (0, 0)) := heap_setCell_same ((((w.setCell ⟨N, 0, none⟩ v0).setCell ⟨N, 1, none⟩ v1).setCell ⟨N, 2, none⟩ v2).setCell ⟨N, 3, none⟩ v3) N 4 _ segT v4 e4
  have e6 : ((((((w.setCell ⟨N, 0, none⟩ v0).setCell ⟨N, 1, none⟩ v1).setCell ⟨N, 2, none⟩ v2).setCell ⟨N, 3, none⟩ v3).setCell ⟨N, 4, none⟩ v4).setCell ⟨N, 5, none⟩ v5).heap[N]? = some (.cells #[v0, v1, v2, v3, v4, v5, a6] segT (0, 0)) := heap_setCell_same (((((w.setCell ⟨N, 0, none⟩ v0).setCell ⟨N, 1, none⟩ v1).setCell ⟨N, 2, none⟩ v2).setCell ⟨N, 3, none⟩ v3).setCell ⟨N, 4, none⟩ v4) N 5 _ segT v5 e5
  have e7 : (((((((w.setCell ⟨N, 0, none⟩ v0).setCell ⟨N, 1, none⟩ v1).setCell ⟨N, 2, none⟩ v2).setCell ⟨N, 3, none⟩ v3).setCell ⟨N, 4, none⟩ v4).setCell ⟨N, 5, none⟩ v5).setCell ⟨N, 6, none⟩ v6).heap[N]? = some (.cells #[v0, v1, v2, v3, v4, v5, v6] segT (0, 0)) := heap_setCell_same ((((((w.setCell ⟨N, 0, none⟩ v0).setCell ⟨N, 1, none⟩ v1).setCell ⟨N, 2, none⟩ v2).setCell ⟨N, 3, none⟩ v3).setCell ⟨N, 4, none⟩ v4).setCell ⟨N, 5, none⟩ v5) N 6 _ segT v6 e6
  exact e7
theorem S7.but (w : World) (N : Nat) (v0 v1 v2 v3 v4 v5 v6 : Value) : But w (S7 w N v0 v1 v2 v3 v4 v5 v6) (fun k => k = N) :=
  ((((((But.setCell w N 0 v0).trans (But.setCell _ N 1 v1) (fun _ _ h => h)).trans (But.setCell _ N 2 v2) (fun _ _ h => h)).trans (But.setCell _ N 3 v3) (fun _ _ h => h)).trans (But.setCell _ N 4 v4) (fun _ _ h => h)).trans (But.setCell _ N 5 v5) (fun _ _ h => h)).trans (But.setCell _ N 6 v6) (fun _ _ h => h)

set_option maxRecDepth 100000 in
set_option maxHeartbeats 8000000 in
theorem rseg_any (A : Option Addr) (c : Nat) (L : List Dt) (i k : Nat) (a b : Dt) (w : World) (hn : L.length ≤ 1000) (hv : RowL 8 encDt w (.slice A L.length c) L) (hi : L[i]? = some a) (hk : L[k]? = some b) :
    Calls Tryz.prog 76 #[.slice A L.length c, .int .i64 (i : Int), .int .i64 (k : Int)] w fun e w' => e = .returned (encS7 (sgOf a b)) ∧ Below w.heap.size w w' := by
  have hil := (List.getElem?_eq_some_iff.1 hi).1
  have hkl := (List.getElem?_eq_some_iff.1 hk).1
  have hb0 := bel_alloc w (.cells #[.string noB, .int .i64 0, .int .i64 0, .string noB, .string noB, .int .i64 0, .int .i64 0] segT)
  have hN := heap_alloc_new w (.cells #[.string noB, .int .i64 0, .int .i64 0, .string noB, .string noB, .int .i64 0, .int .i64 0] segT)
  obtain ⟨g, o, rfl, hgl, ca⟩ := RowL.at8 (hv.more hb0) hi
  obtain ⟨g', o', e, hgl', cb⟩ := RowL.at8 (hv.more hb0) hk
  cases e
  have i1 : (i : Int) < (L.length : Int) := by omega
  have i2 : (k : Int) < (L.length : Int) := by omega
  have a0 := ca 0 _ rfl
  have a1 := ca 1 _ rfl
  have a2 := ca 2 _ rfl
  have a3 := ca 3 _ rfl
  have a5 := ca 5 _ rfl
  have b4 := cb 4 _ rfl
  have b6 := cb 6 _ rfl
  rw [Nat.add_zero] at a0
  clear ca cb hi hk hv
  go_enter Tryz.func76, Tryz.ntmps76
  go_upto_region 1 with fail
  have n0 := (cell_of_row _ _ 0 _ _ (0, 0) hN).trans (show _ = some _ from rfl)
  have n1 := (cell_of_row _ _ 1 _ _ (0, 0) hN).trans (show _ = some _ from rfl)
  have n2 := (cell_of_row _ _ 2 _ _ (0, 0) hN).trans (show _ = some _ from rfl)
  have n3 := (cell_of_row _ _ 3 _ _ (0, 0) hN).trans (show _ = some _ from rfl)
  have n4 := (cell_of_row _ _ 4 _ _ (0, 0) hN).trans (show _ = some _ from rfl)
  have n5 := (cell_of_row _ _ 5 _ _ (0, 0) hN).trans (show _ = some _ from rfl)
  have n6 := (cell_of_row _ _ 6 _ _ (0, 0) hN).trans (show _ = some _ from rfl)
  have z0 := frozen_of_row _ _ 0 _ _ hN
  have z1 := frozen_of_row _ _ 1 _ _ hN
  have z2 := frozen_of_row _ _ 2 _ _ hN
  have z3 := frozen_of_row _ _ 3 _ _ hN
  have z4 := frozen_of_row _ _ 4 _ _ hN
  have z5 := frozen_of_row _ _ 5 _ _ hN
  have z6 := frozen_of_row _ _ 6 _ _ hN
  generalize hw5 : w.alloc (.cells #[.string noB, .int .i64 0, .int .i64 0, .string noB, .string noB, .int .i64 0, .int .i64 0] segT) = w5 at *
  clear hw5
  have HN := Lib.hid hN
  clear hN
  obtain ⟨W7, hW7⟩ : ∃ W, W = S7 w5 w.heap.size (.string a.car) (.int .i64 a.num) (.int .i64 a.day) (.string a.f) (.string b.t) (.int .i64 a.dep) (.int .i64 b.arr) := ⟨_, rfl⟩
  have hx : W7.heap[w.heap.size]? = some (.cells #[.string a.car, .int .i64 a.num, .int .i64 a.day, .string a.f, .string b.t, .int .i64 a.dep, .int .i64 b.arr] segT (0, 0)) := by rw [hW7]; exact S7.heap HN.out _ _ _ _ _ _ _
  have hbt : But w5 W7 (fun k => k = w.heap.size) := by rw [hW7]; exact S7.but _ _ _ _ _ _ _ _ _
  have hbw : Below w.heap.size w W7.drew := (hb0.trans (hbt.below hb0.size (fun k hk => by omega))).drew
  have hxd : W7.drew.heap[w.heap.size]? = some (.cells #[.string a.car, .int .i64 a.num, .int .i64 a.day, .string a.f, .string b.t, .int .i64 a.dep, .int .i64 b.arr] segT (0, 0)) := hx
  have HW := Lib.hid hW7
  have HX := Lib.hid hxd
  have HBW := Lib.hid hbw
  clear hW7 hx hxd hbw hbt
  go_region
  clear n0 n1 n2 n3 n4 n5 n6 z0 z1 z2 z3 z4 z5 z6 a0 a1 a2 a3 a5 b4 b6
  have hq : S7 w5 w.heap.size (.string a.car) (.int .i64 a.num) (.int .i64 a.day) (.string a.f) (.string b.t) (.int .i64 a.dep) (.int .i64 b.arr) = W7 := HW.out.symm
  unfold S7 at hq
  rw [hq]
  clear hq
  have hx := HX.out
  generalize W7.drew = W at *
  have c0 := (cell_of_row W _ 0 _ _ (0, 0) hx).trans (show _ = some _ from rfl)
  have c1 := (cell_of_row W _ 1 _ _ (0, 0) hx).trans (show _ = some _ from rfl)
  have c2 := (cell_of_row W _ 2 _ _ (0, 0) hx).trans (show _ = some _ from rfl)
  have c3 := (cell_of_row W _ 3 _ _ (0, 0) hx).trans (show _ = some _ from rfl)
  have c4 := (cell_of_row W _ 4 _ _ (0, 0) hx).trans (show _ = some _ from rfl)
  have c5 := (cell_of_row W _ 5 _ _ (0, 0) hx).trans (show _ = some _ from rfl)
  have c6 := (cell_of_row W _ 6 _ _ (0, 0) hx).trans (show _ = some _ from rfl)
  clear hx
  go_wp2
  refine bodyPost_ret (v := encS7 (sgOf a b)) ?_ rfl ⟨rfl, HBW.out⟩
  simp [results, Tryz.results76, go_sem, c0, c1, c2, c3, c4, c5, c6, sgOf]
end Go.Proofs.YtfgmlbmjjihhfaaGreatDoor

/- Walk of flight.Segs. -/
namespace Go.Proofs.YtfgmlbmjjihhfaaGreatDoor
open Go.RowKit Go.Shelf
set_option linter.unusedSimpArgs false
set_option linter.unusedVariables false

theorem RowL.dropAt {w : World} {b o c n : Nat} {L : List Dt} (h : RowL 8 encDt w (.slice (some ⟨b, o, none⟩) n c) L) (i : Nat) {k : Nat} {y : Dt} (hk : (L.drop i)[k]? = some y) : ∀ j u, (encDt y)[j]? = some u → w.cell? ⟨b, o + i * 8 + k * 8 + j, none⟩ = some u := by
  rw [List.getElem?_drop] at hk
  obtain ⟨b', o', e, _, hc⟩ := RowL.at8 h hk
  cases e
  intro j u hu
  have := hc j u hu
  rw [show o + i * 8 + k * 8 + j = o + (i + k) * 8 + j by rw [Nat.add_mul]; omega]
  exact this
theorem heap_alloc_two (w : World) (a o : Obj) : ((w.alloc a).alloc o).heap[w.heap.size + 1]? = some o := by
  have h := heap_alloc_new (w.alloc a) o
  rwa [World.size_alloc] at h
theorem ROwn.cap {α : Type} {enc : α → List Value} {e : TypeId} {sz B : Nat} {w : World} {A : Option Addr} {n c : Nat} {l : List α} (h : ROwn e sz enc B w (.slice A n c) l) : l.length ≤ c := by
  rcases h.own.2 with ⟨e1, h1⟩ | ⟨g, cap, cur, e1, _, _, hnc, _⟩
  · omega
  · cases e1; exact hnc
/-- what the segments have in common with their flight -/
def SameFl (f : FV) (day : Int) (L : List Dt) : Prop := ∀ d ∈ L, d.car = f.car ∧ d.num = f.num ∧ d.day = day
theorem legF_same (l : List Air) (f : FV) (day : Int) : SameFl f day (legF l f day) := by
  intro d hd
  unfold legF at hd
  split at hd
  · obtain ⟨x, _, rfl⟩ := List.mem_map.1 hd
    exact ⟨rfl, rfl, rfl⟩
  · simp at hd

set_option maxRecDepth 100000 in
set_option maxHeartbeats 8000000 in
theorem segs_any (p : PV) (f : FV) (day : Int) (w : World) (hl : p.l.length ≤ 40) (hL : AirL w p.A p.l) (hs : ∀ a ∈ p.l, a.shs.length ≤ 300) (hz : ∀ a ∈ p.l, OkZ a.off a.shs) (hG : LegL w (.slice f.A f.lg.length f.c) f.lg) (hn : f.lg.length ≤ 100)
    (hm : ∀ x ∈ f.lg, (-1000000 ≤ x.dep ∧ x.dep ≤ 1000000) ∧ -1000000 ≤ x.arr ∧ x.arr ≤ 1000000) (hd1 : -9223372036854775808 ≤ day) (hd2 : day ≤ 9223372036854775807) :
    Calls Tryz.prog 22 #[encP p, encFl f, .int .i64 day] w fun e w' => ∃ v, e = .returned (.tuple #[v, .int .i64 (legE f day)]) ∧ ROwn segT 7 encSg w.heap.size w' v (segsL (legF p.l f day)) ∧ Below w.heap.size w w' := by
  have hb1 := bel_alloc w (.cells #[.slice p.A p.l.length p.ca, .slice p.D p.ds.length p.cd] placesT)
  have hb2 := bel_alloc (w.alloc (.cells #[.slice p.A p.l.length p.ca, .slice p.D p.ds.length p.cd] placesT)) (.cells #[.string f.car, .int .i64 f.num, .int .i64 f.pf, .int .i64 f.pt, .int .i64 f.pd, .slice f.A f.lg.length f.c] fliT)
  have hb0 := hb1.trans (hb2.mono hb1.size)
  have q0 := (cells_new (w.alloc (.cells #[.slice p.A p.l.length p.ca, .slice p.D p.ds.length p.cd] placesT)) #[.string f.car, .int .i64 f.num, .int .i64 f.pf, .int .i64 f.pt, .int .i64 f.pd, .slice f.A f.lg.length f.c] fliT 0).trans (show _ = some (.string f.car) from rfl)
  have q1 := (cells_new (w.alloc (.cells #[.slice p.A p.l.length p.ca, .slice p.D p.ds.length p.cd] placesT)) #[.string f.car, .int .i64 f.num, .int .i64 f.pf, .int .i64 f.pt, .int .i64 f.pd, .slice f.A f.lg.length f.c] fliT 1).trans (show _ = some (.int .i64 f.num) from rfl)
  rw [World.size_alloc] at q0 q1
  have KL := Lib.hid (legs_any p f day _ hl (hL.more hb0) hs hz (hG.more hb0) hn hm hd1 hd2)
  have HSM := Lib.hid (legF_same p.l f day)
  have HLn : Hid ((legF p.l f day).length ≤ 100) := Lib.hid (by unfold legF; split <;> simp <;> omega)
  have HLE : Hid (legE f day ≠ 0 → legF p.l f day = []) := Lib.hid (by unfold legE legF; split <;> simp)
  generalize hLF : legF p.l f day = L at *
  generalize legE f day = e0 at *
  clear hL hs hz hG hm hd1 hd2 hLF
  by_cases he : e0 = 0
  case neg =>
    have hb : (e0 != 0) = true := by simpa using he
    have HR : Hid (L = []) := Lib.hid (HLE.out he)
    clear he
    go_enter Tryz.func22, Tryz.ntmps22
    go_wp2_with (go_at_call 20; refine KL.out.mono ?_; rintro e w1 ⟨v1, rfl, hO1, hbl⟩)
    have h1 : Below w.heap.size w w1 := hb0.trans (Below.mono hbl hb0.size)
    exact bodyPost_ret (results_tmp2 rfl _ _ _) rfl ⟨_, rfl, by rw [HR.out]; exact ROwn.nil h1.size, h1⟩
  case pos =>
  subst he
  go_enter Tryz.func22, Tryz.ntmps22
  go_upto_region 6 with (go_at_call 20; refine KL.out.mono ?_; rintro e w1 ⟨v1, rfl, hO1, hbl⟩; obtain ⟨A1, c1, rfl, hvc⟩ := id (hO1.rowL rtD.len); have hcap := hO1.cap)
  have hS0 : Below w.heap.size w w1 := hb0.trans (Below.mono hbl hb0.size)
  have c0 := bel_cell hbl q0
  have c1' := bel_cell hbl q1
  have HV := Lib.hid (hO1.rowL rtD.len)
  have hlt1 : w.heap.size + 1 < w1.heap.size := World.block_lt_of_cell? _ _ c0
  have F0 := Lib.hid (bel_get c0)
  have F1 := Lib.hid (bel_get c1')
  clear hO1 hvc KL q0 q1 c0 c1' hbl HLE hb1 hb2
  go_loopg [10, 27] L.length (fun kx v10 vi wr => ∃ (v : Value) (i : Nat), v = v10 ∧ vi = .int .i64 i ∧ i + kx = L.length ∧ Hid (ROwn segT 7 encSg w1.heap.size wr v (segsI L i) ∧ SW w1 wr))
  case atStart => exact ⟨_, 0, rfl, rfl, by omega, Lib.hid ⟨ROwn.nil (Nat.le_refl _), Below.refl _ _⟩⟩
  case round =>
    obtain ⟨v, i, rfl, rfl, hix, HH⟩ := hrel
    have HIX := Lib.hid hix
    have hSr : SW w1 wr := HH.out.2
    by_cases hlt : i < L.length
    · clear hix
      obtain ⟨a, ha⟩ : ∃ a, L[i]? = some a := ⟨_, List.getElem?_eq_getElem hlt⟩
      obtain ⟨b, o, rfl, hbl, hc⟩ := RowL.at8 (HV.out.more hSr) ha
      have HSm := Lib.hid (HSM.out a (List.mem_of_getElem? ha))
      have HSS := Lib.hid (segsI_succ ha)
      have i2 : (i : Int) < (L.length : Int) := by omega
      have z0 := hc 0 _ rfl
      have z1 := hc 1 _ rfl
      have z2 := hc 2 _ rfl
      have z3 := hc 3 _ rfl
      have z4 := hc 4 _ rfl
      have z5 := hc 5 _ rfl
      have z6 := hc 6 _ rfl
      have z7 := hc 7 _ rfl
      rw [Nat.add_zero] at z0
      have hO := HH.out.1
      have HV1 : Hid (∀ g, v.ownBlock = some g → w1.heap.size ≤ g ∧ g < wr.heap.size) := Lib.hid (fun g hg => hO.low hg)
      have hvN : v.ownBlock ≠ some wr.heap.size := fun h => by have := (HV1.out _ h).2; omega
      have hb6 := bel_alloc wr (.cells #[.string a.car, .int .i64 a.num, .int .i64 a.day, .string a.f, .string a.t, .int .i64 a.dep, .int .i64 a.arr, .string a.eq] datT)
      have m3 := (cells_new wr #[.string a.car, .int .i64 a.num, .int .i64 a.day, .string a.f, .string a.t, .int .i64 a.dep, .int .i64 a.arr, .string a.eq] datT 3).trans (show _ = some (Value.string a.f) from rfl)
      have m5 := (cells_new wr #[.string a.car, .int .i64 a.num, .int .i64 a.day, .string a.f, .string a.t, .int .i64 a.dep, .int .i64 a.arr, .string a.eq] datT 5).trans (show _ = some (Value.int .i64 a.dep) from rfl)
      have i3 : (i : Int) ≤ (c1 : Int) := by omega
      have i4 : (L.length : Int) ≤ (c1 : Int) := by omega
      have i5 : (i : Int) ≤ (L.length : Int) := by omega
      have i6 : i < c1 := by omega
      have i7 : (i : Int) < (c1 : Int) := by omega
      have i8 : ¬ (c1 : Int) = (i : Int) := by omega
      have i9 : ¬ c1 = i := by omega
      have hi3 : (L.length - i : Nat) = (L.drop i).length := by rw [List.length_drop]
      have HD := Lib.hid hi3
      have hle : (segsI L i).length ≤ 10000 := by
        have h1 := segsI_le L i
        have h2 := HLn.out
        have h3 : i * L.length ≤ 100 * 100 := Nat.mul_le_mul (by omega) (by omega)
        omega
      have HLE2 := Lib.hid hle
      clear hc ha hle hi3
      have HLT := Lib.hid hlt
      have ib : i ≤ 100 := by have := HLn.out; omega
      have HNX : Hid (i + 1 + (L.length - (i + 1)) = L.length) := Lib.hid (by omega)
      have HM : Hid ((L.drop i).length = L.length - i) := Lib.hid (by rw [List.length_drop])
      have hm100 : L.length - i ≤ 100 := by have := HLn.out; omega
      go_upto_region 9 with fail
      generalize hw6 : wr.alloc (.cells #[.string a.car, .int .i64 a.num, .int .i64 a.day, .string a.f, .string a.t, .int .i64 a.dep, .int .i64 a.arr, .string a.eq] datT) = w6 at *
      clear hw6 z0 z1 z2 z3 z4 z5 z6 z7
      have hO6 := hO.more hb6
      have HS6 : Hid (SW w1 w6) := Lib.hid (Below.trans hSr (hb6.mono hSr.size))
      have HO6 := Lib.hid hO6
      have HM3 : Hid (∀ W u, Chg w6 W v u → W.cell? ⟨wr.heap.size, 3, none⟩ = some (.string a.f)) := Lib.hid (fun W u h => h.cell m3 hvN)
      have HM5 : Hid (∀ W u, Chg w6 W v u → W.cell? ⟨wr.heap.size, 5, none⟩ = some (.int .i64 a.dep)) := Lib.hid (fun W u h => h.cell m5 hvN)
      have HSW : Hid (∀ W u, Chg w6 W v u → SW w1 W) := Lib.hid (fun W u h => Below.trans HS6.out (h.below HO6.out))
      have HI0 : Hid (ROwn segT 7 encSg w1.heap.size w6 v (segsI L i ++ ((L.drop i).take 0).map (sgOf a)) ∧ Chg w6 w6 v v) := Lib.hid ⟨by simpa using hO6, Chg.refl _ _⟩
      have i10 : (0 : Int) ≤ ((L.length - i : Nat) : Int) := by omega
      clear hO hO6 m3 m5 hSr HH hb6 hbl i3 i4 i5 i6 i7 i8 i9 i2 HD
      generalize hmm : L.length - i = m at *
      clear hmm
      go_loopg [10, 36] m (fun kx v10 vk wr => ∃ (u : Value) (k : Nat), u = v10 ∧ vk = .int .i64 k ∧ k + kx = m ∧ Hid (ROwn segT 7 encSg w1.heap.size wr u (segsI L i ++ ((L.drop i).take k).map (sgOf a)) ∧ Chg w6 wr v u))
      case atStart => exact ⟨_, 0, rfl, rfl, by omega, HI0⟩
      case round =>
        obtain ⟨u, k, rfl, rfl, hkx, HK⟩ := hrel
        clear HI0
        have HKX := Lib.hid hkx
        have hC := HK.out.2
        have hSq := HSW.out _ _ hC
        by_cases hlk : k < m
        · clear hkx
          obtain ⟨y, hy⟩ : ∃ y, (L.drop i)[k]? = some y := ⟨_, List.getElem?_eq_getElem (by rw [HM.out]; exact hlk)⟩
          have hc := RowL.dropAt (HV.out.more hSq) i hy
          have j2 : (k : Int) < (m : Int) := by omega
          have y0 := hc 0 _ rfl
          have y1 := hc 1 _ rfl
          have y2 := hc 2 _ rfl
          have y3 := hc 3 _ rfl
          have y4 := hc 4 _ rfl
          have y5 := hc 5 _ rfl
          have y6 := hc 6 _ rfl
          have y7 := hc 7 _ rfl
          rw [Nat.add_zero] at y0
          have hO := HK.out.1.alloc (.cells #[.string y.car, .int .i64 y.num, .int .i64 y.day, .string y.f, .string y.t, .int .i64 y.dep, .int .i64 y.arr, .string y.eq] datT)
          have hby := bel_alloc wr (.cells #[.string y.car, .int .i64 y.num, .int .i64 y.day, .string y.f, .string y.t, .int .i64 y.dep, .int .i64 y.arr, .string y.eq] datT)
          have hSy : SW w1 (wr.alloc (.cells #[.string y.car, .int .i64 y.num, .int .i64 y.day, .string y.f, .string y.t, .int .i64 y.dep, .int .i64 y.arr, .string y.eq] datT)) := Below.trans hSq (hby.mono hSq.size)
          have x0 := F0.out _ hSy
          have x1 := F1.out _ hSy
          have x3 := bel_cell hby (HM3.out _ _ hC)
          have x5 := bel_cell hby (HM5.out _ _ hC)
          have HTk : Hid (segsI L i ++ ((L.drop i).take (k + 1)).map (sgOf a) = segsI L i ++ ((L.drop i).take k).map (sgOf a) ++ [(⟨f.car, f.num, day, a.f, y.t, a.dep, y.arr⟩ : Sg)]) := Lib.hid (by
            rw [List.take_add_one, hy, List.map_append, List.append_assoc]
            have e : sgOf a y = ⟨f.car, f.num, day, a.f, y.t, a.dep, y.arr⟩ := by
              obtain ⟨e1, e2, e3⟩ := HSm.out
              unfold sgOf
              rw [e1, e2, e3]
            simp [e])
          have HLn2 : Hid ((segsI L i ++ ((L.drop i).take k).map (sgOf a)).length ≤ 100000000) := Lib.hid (by
            have h1 := HLE2.out
            have h2 := List.length_take_le k (L.drop i)
            rw [List.length_append, List.length_map]
            omega)
          have hCy := hC.trans (Chg.of_below hby)
          clear hc hy hSq
          go_wp2_with (at_builtin; refine wpList_rapp rtG rfl _ _ rfl hO rfl (bel_alloc _ _) _ (⟨f.car, f.num, day, a.f, y.t, a.dep, y.arr⟩ : Sg) _ rfl (cs := #[.string f.car, .int .i64 f.num, .int .i64 day, .string a.f, .string y.t, .int .i64 a.dep, .int .i64 y.arr]) rfl (heap_alloc_two _ _ _) HLn2.out ?_; intro v9 w9 hO9 hC9)
          have HY : Hid (ROwn segT 7 encSg w1.heap.size w9 v9 (segsI L i ++ ((L.drop i).take (k + 1)).map (sgOf a)) ∧ Chg w6 w9 v v9) := Lib.hid ⟨by rw [HTk.out]; exact hO9, hCy.trans hC9⟩
          clear hO9 hC9 hO hCy
          go_roundg (m - (k + 1))
          case measure => have := HKX.out; omega
          case rel => exact ⟨_, k + 1, rfl, by go_num, by omega, HY⟩
        · have hk : k = m := by omega
          have HY : Hid (ROwn segT 7 encSg w1.heap.size wr u (segsI L (i + 1)) ∧ SW w1 wr) := Lib.hid ⟨by
            have h := HK.out.1
            rw [hk, List.take_of_length_le (by rw [HM.out]; omega)] at h
            rw [HSS.out]
            exact h, hSq⟩
          have j2 : ¬ (k : Int) < (m : Int) := by omega
          clear HK hkx hk hC hSq
          go_wp2
          go_roundg (L.length - (i + 1))
          case measure => have h1 := HIX.out; have h2 : i < L.length := HLT.out; rw [← h1] at h2 ⊢; omega
          case rel => exact ⟨_, i + 1, rfl, by go_num, HNX.out, HY⟩
    · have hi : i = L.length := by omega
      have HZ : Hid (ROwn segT 7 encSg w.heap.size wr v (segsL L) ∧ Below w.heap.size w wr) := Lib.hid ⟨⟨by
        have h := HH.out.1.own
        rw [hi] at h
        exact h.mono hS0.size, Nat.le_trans hS0.size hSr.size⟩, hS0.trans (Below.mono hSr hS0.size)⟩
      have i2 : ¬ (i : Int) < (L.length : Int) := by omega
      clear HH hix hi
      go_wp2
      exact bodyPost_ret (results_tmp2 rfl _ _ _) rfl ⟨v, rfl, HZ.out.1, HZ.out.2⟩

end Go.Proofs.YtfgmlbmjjihhfaaGreatDoor

/- Walks of the reference's Legs and Segs. -/
namespace Go.Proofs.YtfgmlbmjjihhfaaGreatDoor
open Go.RowKit Go.Shelf
set_option linter.unusedSimpArgs false
set_option linter.unusedVariables false

set_option maxRecDepth 100000 in
set_option maxHeartbeats 8000000 in
theorem rlegsT_any (p : PV) (f : FV) (day : Int) (w : World) (hl : p.l.length ≤ 40) (hL : AirL w p.A p.l) (hz : ∀ a ∈ p.l, OkZ a.off a.shs) (hG : LegL w (.slice f.A f.lg.length f.c) f.lg) (hn : f.lg.length ≤ 100)
    (hm : ∀ x ∈ f.lg, (-1000000 ≤ x.dep ∧ x.dep ≤ 1000000) ∧ -1000000 ≤ x.arr ∧ x.arr ≤ 1000000) (hd1 : -9223372036854775808 ≤ day) (hd2 : day ≤ 9223372036854775807) :
    Calls Tryz.prog 21 #[encP p, encFl f, .int .i64 day] w fun e w' => ∃ v, e = .returned (.tuple #[v, .int .i64 (legE f day)]) ∧ ROwn datT 8 encDt w.heap.size w' v (legF p.l f day) ∧ Below w.heap.size w w' := by
  have hb1 := bel_alloc w (.cells #[.slice p.A p.l.length p.ca, .slice p.D p.ds.length p.cd] placesT)
  have hb2 := bel_alloc (w.alloc (.cells #[.slice p.A p.l.length p.ca, .slice p.D p.ds.length p.cd] placesT)) (.cells #[.string f.car, .int .i64 f.num, .int .i64 f.pf, .int .i64 f.pt, .int .i64 f.pd, .slice f.A f.lg.length f.c] fliT)
  have hb0 := hb1.trans (hb2.mono hb1.size)
  have p0 := bel_cell hb2 ((cells_new w #[.slice p.A p.l.length p.ca, .slice p.D p.ds.length p.cd] placesT 0).trans (show _ = some (.slice p.A p.l.length p.ca) from rfl))
  have p1 := bel_cell hb2 ((cells_new w #[.slice p.A p.l.length p.ca, .slice p.D p.ds.length p.cd] placesT 1).trans (show _ = some (.slice p.D p.ds.length p.cd) from rfl))
  have q0 := (cells_new (w.alloc (.cells #[.slice p.A p.l.length p.ca, .slice p.D p.ds.length p.cd] placesT)) #[.string f.car, .int .i64 f.num, .int .i64 f.pf, .int .i64 f.pt, .int .i64 f.pd, .slice f.A f.lg.length f.c] fliT 0).trans (show _ = some (Value.string f.car) from rfl)
  have q1 := (cells_new (w.alloc (.cells #[.slice p.A p.l.length p.ca, .slice p.D p.ds.length p.cd] placesT)) #[.string f.car, .int .i64 f.num, .int .i64 f.pf, .int .i64 f.pt, .int .i64 f.pd, .slice f.A f.lg.length f.c] fliT 1).trans (show _ = some (Value.int .i64 f.num) from rfl)
  have q2 := (cells_new (w.alloc (.cells #[.slice p.A p.l.length p.ca, .slice p.D p.ds.length p.cd] placesT)) #[.string f.car, .int .i64 f.num, .int .i64 f.pf, .int .i64 f.pt, .int .i64 f.pd, .slice f.A f.lg.length f.c] fliT 2).trans (show _ = some (Value.int .i64 f.pf) from rfl)
  have q3 := (cells_new (w.alloc (.cells #[.slice p.A p.l.length p.ca, .slice p.D p.ds.length p.cd] placesT)) #[.string f.car, .int .i64 f.num, .int .i64 f.pf, .int .i64 f.pt, .int .i64 f.pd, .slice f.A f.lg.length f.c] fliT 3).trans (show _ = some (Value.int .i64 f.pt) from rfl)
  have q4 := (cells_new (w.alloc (.cells #[.slice p.A p.l.length p.ca, .slice p.D p.ds.length p.cd] placesT)) #[.string f.car, .int .i64 f.num, .int .i64 f.pf, .int .i64 f.pt, .int .i64 f.pd, .slice f.A f.lg.length f.c] fliT 4).trans (show _ = some (Value.int .i64 f.pd) from rfl)
  have q5 := (cells_new (w.alloc (.cells #[.slice p.A p.l.length p.ca, .slice p.D p.ds.length p.cd] placesT)) #[.string f.car, .int .i64 f.num, .int .i64 f.pf, .int .i64 f.pt, .int .i64 f.pd, .slice f.A f.lg.length f.c] fliT 5).trans (show _ = some (Value.slice f.A f.lg.length f.c) from rfl)
  rw [World.size_alloc] at q0 q1 q2 q3 q4 q5
  have KH := Lib.hid (fun w => Per.rhas_any f.pf f.pt f.pd day w hd1 hd2)
  cases hh : Per.hasQ (f.pf, f.pt, f.pd) day with
  | false =>
    have HE : Hid (legE f day = 12 ∧ legF p.l f day = []) := Lib.hid ⟨by rw [legE, hh]; rfl, by rw [legF, hh]; rfl⟩
    rw [hh] at KH
    clear hh hz hm
    go_enter Tryz.func21, Tryz.ntmps21
    go_wp2_with (go_at_call 75; refine (KH.out _).mono ?_; rintro e w1 ⟨rfl, hbh⟩)
    have h1 := hb0.trans (Below.mono hbh hb0.size)
    exact bodyPost_ret (results_tmp2 rfl _ _ _) rfl ⟨_, by rw [HE.out.1]; rfl, by rw [HE.out.2]; exact ROwn.nil h1.size, h1⟩
  | true =>
    have hdb := has_bd hh
    have HE : Hid (legE f day = 0 ∧ legF p.l f day = f.lg.map (datL p.l f day)) := Lib.hid ⟨by rw [legE, hh]; rfl, by rw [legF, hh]; rfl⟩
    rw [hh] at KH
    have KN := Lib.hid (fun w hA hG => rlegs7_any p f day w hl hA hz hG hn hm (by omega))
    have HL := Lib.hid (hL.more hb0)
    have HG := Lib.hid (hG.more hb0)
    clear hh hz hm hL hG hd1 hd2 hdb
    generalize f.lg.map (datL p.l f day) = DL at *
    go_enter Tryz.func21, Tryz.ntmps21
    go_wp2_with (first | (go_at_call 69; refine (KN.out _ (HL.out.more hbh) (HG.out.more hbh)).mono ?_; rintro e w2 ⟨v1, rfl, hv1, hbn⟩) | (go_at_call 75; refine (KH.out _).mono ?_; rintro e w1 ⟨rfl, hbh⟩; have r0 := bel_cell hbh p0; have r1 := bel_cell hbh p1; have s0 := bel_cell hbh q0; have s1 := bel_cell hbh q1; have s2 := bel_cell hbh q2; have s3 := bel_cell hbh q3; have s4 := bel_cell hbh q4; have s5 := bel_cell hbh q5))
    have h1 := hb0.trans (Below.mono hbh hb0.size)
    exact bodyPost_ret (results_tmp2 rfl _ _ _) rfl ⟨v1, by rw [HE.out.1]; rfl, by rw [HE.out.2]; exact ⟨hv1.own.mono h1.size, Nat.le_trans h1.size hv1.base⟩, h1.trans (Below.mono hbn h1.size)⟩

set_option maxRecDepth 100000 in
set_option maxHeartbeats 8000000 in
theorem rsegs_any (p : PV) (f : FV) (day : Int) (w : World) (hl : p.l.length ≤ 40) (hL : AirL w p.A p.l) (hz : ∀ a ∈ p.l, OkZ a.off a.shs) (hG : LegL w (.slice f.A f.lg.length f.c) f.lg) (hn : f.lg.length ≤ 100)
    (hm : ∀ x ∈ f.lg, (-1000000 ≤ x.dep ∧ x.dep ≤ 1000000) ∧ -1000000 ≤ x.arr ∧ x.arr ≤ 1000000) (hd1 : -9223372036854775808 ≤ day) (hd2 : day ≤ 9223372036854775807) :
    Calls Tryz.prog 23 #[encP p, encFl f, .int .i64 day] w fun e w' => ∃ v, e = .returned (.tuple #[v, .int .i64 (legE f day)]) ∧ ROwn segT 7 encSg w.heap.size w' v (segsL (legF p.l f day)) ∧ Below w.heap.size w w' := by
  have hb1 := bel_alloc w (.cells #[.slice p.A p.l.length p.ca, .slice p.D p.ds.length p.cd] placesT)
  have hb2 := bel_alloc (w.alloc (.cells #[.slice p.A p.l.length p.ca, .slice p.D p.ds.length p.cd] placesT)) (.cells #[.string f.car, .int .i64 f.num, .int .i64 f.pf, .int .i64 f.pt, .int .i64 f.pd, .slice f.A f.lg.length f.c] fliT)
  have hb0 := hb1.trans (hb2.mono hb1.size)
  have KL := Lib.hid (rlegsT_any p f day _ hl (hL.more hb0) hz (hG.more hb0) hn hm hd1 hd2)
  have HLn : Hid ((legF p.l f day).length ≤ 100) := Lib.hid (by unfold legF; split <;> simp <;> omega)
  generalize hLF : legF p.l f day = L at *
  generalize legE f day = e0 at *
  clear hL hz hG hm hd1 hd2 hLF
  go_enter Tryz.func23, Tryz.ntmps23
  go_upto_region 4 with (go_at_call 21; refine KL.out.mono ?_; rintro e w1 ⟨v1, rfl, hO1, hbl⟩; obtain ⟨A1, c1, rfl, hvc⟩ := id (hO1.rowL rtD.len))
  have hS0 : Below w.heap.size w w1 := hb0.trans (Below.mono hbl hb0.size)
  have HV := Lib.hid (hO1.rowL rtD.len)
  clear hO1 hvc KL hbl hb1 hb2
  go_loopg [10, 11] L.length (fun kx v10 vi wr => ∃ (v : Value) (i : Nat), v = v10 ∧ vi = .int .i64 i ∧ i + kx = L.length ∧ Hid (ROwn segT 7 encSg w1.heap.size wr v (segsI L i) ∧ SW w1 wr))
  case atStart => exact ⟨_, 0, rfl, rfl, by omega, Lib.hid ⟨ROwn.nil (Nat.le_refl _), Below.refl _ _⟩⟩
  case round =>
    obtain ⟨v, i, rfl, rfl, hix, HH⟩ := hrel
    have HIX := Lib.hid hix
    have hSr : SW w1 wr := HH.out.2
    by_cases hlt : i < L.length
    · clear hix
      obtain ⟨a, ha⟩ : ∃ a, L[i]? = some a := ⟨_, List.getElem?_eq_getElem hlt⟩
      have HSS := Lib.hid (segsI_succ ha)
      have i2 : (i : Int) < (L.length : Int) := by omega
      have hle : (segsI L i).length ≤ 10000 := by
        have h1 := segsI_le L i
        have h2 := HLn.out
        have h3 : i * L.length ≤ 100 * 100 := Nat.mul_le_mul (by omega) (by omega)
        omega
      have HLE2 := Lib.hid hle
      have KS : Hid (∀ (k : Nat) (y : Dt) W, SW w1 W → L[k]? = some y → Calls Tryz.prog 76 #[.slice A1 L.length c1, .int .i64 (i : Int), .int .i64 (k : Int)] W fun e w' => e = .returned (encS7 (sgOf a y)) ∧ Below W.heap.size W w') := Lib.hid (fun k y W h hk => rseg_any A1 c1 L i k a y W (by have := HLn.out; omega) (HV.out.more h) ha hk)
      have ib : i ≤ 100 := by have := HLn.out; omega
      have HLT := Lib.hid hlt
      have HNX : Hid (i + 1 + (L.length - (i + 1)) = L.length) := Lib.hid (by omega)
      have HI0 : Hid (ROwn segT 7 encSg w1.heap.size wr v (segsI L i ++ ((L.drop i).take (i - i)).map (sgOf a)) ∧ SW w1 wr) := Lib.hid ⟨by simpa using HH.out.1, hSr⟩
      have hi0 : i + (L.length - i) = L.length := by omega
      have HL100 : Hid (L.length ≤ 100) := HLn
      clear hle ha HH hSr
      go_wp2
      go_loopg [10, 12] (L.length - i) (fun kx v10 vk wr => ∃ (u : Value) (k : Nat), u = v10 ∧ vk = .int .i64 k ∧ k + kx = L.length ∧ i ≤ k ∧ Hid (ROwn segT 7 encSg w1.heap.size wr u (segsI L i ++ ((L.drop i).take (k - i)).map (sgOf a)) ∧ SW w1 wr))
      case atStart => exact ⟨_, i, rfl, rfl, hi0, Nat.le_refl _, HI0⟩
      case round =>
        obtain ⟨u, k, rfl, rfl, hkx, hik, HK⟩ := hrel
        clear HI0 hi0
        have HKX := Lib.hid hkx
        have HIK := Lib.hid hik
        have hSq : SW w1 wr := HK.out.2
        by_cases hlk : k < L.length
        · clear hkx
          obtain ⟨y, hy⟩ : ∃ y, L[k]? = some y := ⟨_, List.getElem?_eq_getElem hlk⟩
          have j2 : (k : Int) < (L.length : Int) := by omega
          have KSy := Lib.hid (KS.out k y wr hSq hy)
          have HTk : Hid (segsI L i ++ ((L.drop i).take (k + 1 - i)).map (sgOf a) = segsI L i ++ ((L.drop i).take (k - i)).map (sgOf a) ++ [sgOf a y]) := Lib.hid (by
            have e : (L.drop i)[k - i]? = some y := by rw [List.getElem?_drop, show i + (k - i) = k by omega]; exact hy
            rw [show k + 1 - i = (k - i) + 1 by omega, List.take_add_one, e, List.map_append, List.append_assoc]
            simp)
          have HLn2 : Hid ((segsI L i ++ ((L.drop i).take (k - i)).map (sgOf a)).length ≤ 100000000) := Lib.hid (by
            have h1 := HLE2.out
            have h2 := List.length_take_le (k - i) (L.drop i)
            have h3 := HL100.out
            rw [List.length_append, List.length_map]
            omega)
          have HKN : Hid (k + 1 + (L.length - (k + 1)) = L.length ∧ i ≤ k + 1 ∧ L.length - (k + 1) < L.length - k) := Lib.hid (by omega)
          have kb : k ≤ 100 := by have := HL100.out; omega
          have hO := HK.out.1
          generalize sgOf a y = s at *
          clear hy HK hik
          go_wp2_with (first
            | (go_at_call 76; refine KSy.out.mono ?_; rintro e w8 ⟨rfl, hb8⟩; have hO := hO.more hb8; have hSq : SW w1 w8 := Below.trans hSq (Below.mono hb8 hSq.size))
            | (at_builtin; refine wpList_rapp rtG rfl _ _ rfl hO rfl (bel_alloc _ _) _ s _ rfl (cs := #[.string s.car, .int .i64 s.num, .int .i64 s.day, .string s.f, .string s.t, .int .i64 s.dep, .int .i64 s.arr]) rfl (heap_alloc_new _ _) HLn2.out ?_; intro v9 w9 hO9 hC9))
          have HY : Hid (ROwn segT 7 encSg w1.heap.size w9 v9 (segsI L i ++ ((L.drop i).take (k + 1 - i)).map (sgOf a)) ∧ SW w1 w9) := Lib.hid ⟨by rw [HTk.out]; exact hO9, Below.trans hSq (hC9.below hO)⟩
          clear hO9 hC9 hO hSq
          go_roundg (L.length - (k + 1))
          case measure => have h1 := HKX.out; have h2 := HKN.out.2.2; omega
          case rel => exact ⟨_, k + 1, rfl, by go_num, HKN.out.1, HKN.out.2.1, HY⟩
        · have hk : k = L.length := by omega
          have HY : Hid (ROwn segT 7 encSg w1.heap.size wr u (segsI L (i + 1)) ∧ SW w1 wr) := Lib.hid ⟨by
            have h := HK.out.1
            rw [List.take_of_length_le (by rw [List.length_drop]; omega)] at h
            rw [HSS.out]
            exact h, hSq⟩
          have j2 : ¬ (k : Int) < (L.length : Int) := by omega
          clear HK hkx hk hSq hik
          go_wp2
          go_roundg (L.length - (i + 1))
          case measure => have h1 := HIX.out; have h2 : i < L.length := HLT.out; omega
          case rel => exact ⟨_, i + 1, rfl, by go_num, HNX.out, HY⟩
    · have hi : i = L.length := by omega
      have HZ : Hid (ROwn segT 7 encSg w.heap.size wr v (segsL L) ∧ Below w.heap.size w wr) := Lib.hid ⟨⟨by
        have h := HH.out.1.own
        rw [hi] at h
        exact h.mono hS0.size, Nat.le_trans hS0.size hSr.size⟩, hS0.trans (Below.mono hSr hS0.size)⟩
      have i2 : ¬ (i : Int) < (L.length : Int) := by omega
      clear HH hix hi
      go_wp2
      exact bodyPost_ret (results_tmp2 rfl _ _ _) rfl ⟨v, rfl, HZ.out.1, HZ.out.2⟩

end Go.Proofs.YtfgmlbmjjihhfaaGreatDoor

/- Walk of the law FlightLegs. -/
namespace Go.Proofs.YtfgmlbmjjihhfaaGreatDoor
open Go.RowKit Go.Shelf
set_option linter.unusedSimpArgs false
set_option linter.unusedVariables false

theorem RowL.at7 {w : World} {A : Option Addr} {n c : Nat} {L : List Sg} (h : RowL 7 encSg w (.slice A n c) L) {k : Nat} {y : Sg} (hk : L[k]? = some y) : ∃ b o, A = some ⟨b, o, none⟩ ∧ b < w.heap.size ∧ ∀ j u, (encSg y)[j]? = some u → w.cell? ⟨b, o + k * 7 + j, none⟩ = some u := by
  obtain ⟨hlt, rfl⟩ := List.getElem?_eq_some_iff.1 hk
  obtain ⟨b, o, h1, h2, h3⟩ := h.at rfl hlt
  exact ⟨b, o, h1, h2, h3⟩
theorem legF_len (l : List Air) (f : FV) (day : Int) (h : f.lg.length ≤ 100) : (legF l f day).length ≤ 100 := by
  unfold legF
  split <;> simp <;> omega
theorem segsL_len {L : List Dt} (h : L.length ≤ 100) : (segsL L).length ≤ 10000 := by
  have h1 := segsI_le L L.length
  have h3 : L.length * L.length ≤ 100 * 100 := Nat.mul_le_mul h h
  unfold segsL
  omega
set_option maxRecDepth 100000 in
set_option maxHeartbeats 8000000 in
theorem flightLegs_walk (p : PV) (f : FV) (day : Int) (bd : -9223372036854775808 ≤ day ∧ day ≤ 9223372036854775807) (w : World) (hE : EnvP w) (hP : PlL w p) (hA : ∀ a ∈ p.l, OkA a) (hD : ∀ d ∈ p.ds, OkD d) (h1 : p.l.length < 9223372036854775808) (h2 : p.ds.length < 9223372036854775808) (hG : LegL w (.slice f.A f.lg.length f.c) f.lg) (of : OkFl f) :
    Calls Tryz.prog 4 #[encP p, encFl f, .int .i64 day] w fun e w' => e = .returned (.bool true) ∧ Below w.heap.size w w' := by
  have hb1 := bel_alloc w (.cells #[.slice p.A p.l.length p.ca, .slice p.D p.ds.length p.cd] placesT)
  have hb2 := bel_alloc (w.alloc (.cells #[.slice p.A p.l.length p.ca, .slice p.D p.ds.length p.cd] placesT)) (.cells #[.string f.car, .int .i64 f.num, .int .i64 f.pf, .int .i64 f.pt, .int .i64 f.pd, .slice f.A f.lg.length f.c] fliT)
  have hb0 := hb1.trans (hb2.mono hb1.size)
  have p0 := bel_cell hb2 ((cells_new w #[.slice p.A p.l.length p.ca, .slice p.D p.ds.length p.cd] placesT 0).trans (show _ = some (Value.slice p.A p.l.length p.ca) from rfl))
  have p1 := bel_cell hb2 ((cells_new w #[.slice p.A p.l.length p.ca, .slice p.D p.ds.length p.cd] placesT 1).trans (show _ = some (Value.slice p.D p.ds.length p.cd) from rfl))
  have q0 := (cells_new (w.alloc (.cells #[.slice p.A p.l.length p.ca, .slice p.D p.ds.length p.cd] placesT)) #[.string f.car, .int .i64 f.num, .int .i64 f.pf, .int .i64 f.pt, .int .i64 f.pd, .slice f.A f.lg.length f.c] fliT 0).trans (show _ = some (Value.string f.car) from rfl)
  have q1 := (cells_new (w.alloc (.cells #[.slice p.A p.l.length p.ca, .slice p.D p.ds.length p.cd] placesT)) #[.string f.car, .int .i64 f.num, .int .i64 f.pf, .int .i64 f.pt, .int .i64 f.pd, .slice f.A f.lg.length f.c] fliT 1).trans (show _ = some (Value.int .i64 f.num) from rfl)
  have q2 := (cells_new (w.alloc (.cells #[.slice p.A p.l.length p.ca, .slice p.D p.ds.length p.cd] placesT)) #[.string f.car, .int .i64 f.num, .int .i64 f.pf, .int .i64 f.pt, .int .i64 f.pd, .slice f.A f.lg.length f.c] fliT 2).trans (show _ = some (Value.int .i64 f.pf) from rfl)
  have q3 := (cells_new (w.alloc (.cells #[.slice p.A p.l.length p.ca, .slice p.D p.ds.length p.cd] placesT)) #[.string f.car, .int .i64 f.num, .int .i64 f.pf, .int .i64 f.pt, .int .i64 f.pd, .slice f.A f.lg.length f.c] fliT 3).trans (show _ = some (Value.int .i64 f.pt) from rfl)
  have q4 := (cells_new (w.alloc (.cells #[.slice p.A p.l.length p.ca, .slice p.D p.ds.length p.cd] placesT)) #[.string f.car, .int .i64 f.num, .int .i64 f.pf, .int .i64 f.pt, .int .i64 f.pd, .slice f.A f.lg.length f.c] fliT 4).trans (show _ = some (Value.int .i64 f.pd) from rfl)
  have q5 := (cells_new (w.alloc (.cells #[.slice p.A p.l.length p.ca, .slice p.D p.ds.length p.cd] placesT)) #[.string f.car, .int .i64 f.num, .int .i64 f.pf, .int .i64 f.pt, .int .i64 f.pd, .slice f.A f.lg.length f.c] fliT 5).trans (show _ = some (Value.slice f.A f.lg.length f.c) from rfl)
  rw [World.size_alloc] at q0 q1 q2 q3 q4 q5
  have HP := Lib.hid (hP.more hb0)
  have HG := Lib.hid (hG.more hb0)
  have HE := Lib.hid (hE.more hb0)
  have HOF := Lib.hid of
  have hlen := of.len
  clear hP hG hE of
  go_enter Tryz.func4, Tryz.ntmps4
  go_upto_region 1 with (fail)
  generalize hw5 : (w.alloc (.cells #[.slice p.A p.l.length p.ca, .slice p.D p.ds.length p.cd] placesT)).alloc (.cells #[.string f.car, .int .i64 f.num, .int .i64 f.pf, .int .i64 f.pt, .int .i64 f.pd, .slice f.A f.lg.length f.c] fliT) = w5 at *
  clear hw5 hb1 hb2
  have f0 := bel_get q0
  have f1 := bel_get q1
  have f2 := bel_get q2
  have f3 := bel_get q3
  have f4 := bel_get q4
  have f5 := bel_get q5
  have y0 := bel_get p0
  have y1 := bel_get p1
  clear p0 p1 q0 q1 q2 q3 q4 q5
  have KW : Hid (∀ W, SW w5 W → Calls Tryz.prog 15 #[] W fun e w' => e = .returned (.bool true) ∧ SW w5 w') := Lib.hid (SW.call (fun W h => awake7_any W (HE.out.more h)))
  have KR : Hid (∀ W, SW w5 W → Calls Tryz.prog 19 #[encP p, encFl f] W fun e w' => ∃ v : Value, e = .returned v ∧ Hid (v = .bool false ∨ (v = .bool true ∧ RightF p f)) ∧ SW w5 w') := Lib.hid (fun W h => (right_any p f W (HP.out.more h) hA hD h1 h2 (HG.out.more h) HOF.out).mono (by
    rintro e w' ⟨v, rfl, hv, hb⟩
    exact ⟨v, rfl, hv, Below.trans h (Below.mono hb h.size)⟩))
  have hS : SW w5 w5 := Below.refl _ _
  have k0 := f0 _ hS
  have k1 := f1 _ hS
  have k2 := f2 _ hS
  have k3 := f3 _ hS
  have k4 := f4 _ hS
  have k5 := f5 _ hS
  have z0 := y0 _ hS
  have z1 := y1 _ hS
  go_wp2_with (go_at_call 19; refine (KR.out _ hS).mono ?_; rintro e w1 ⟨v1, rfl, hv1, hS⟩; refine Hid.out ?_)
  clear k0 k1 k2 k3 k4 k5 z0 z1
  rcases hv1.out with rfl | ⟨rfl, hR⟩
  · refine Lib.hid ?_
    go_wp2_with (go_at_call 15; refine (KW.out _ hS).mono ?_; rintro e w9 ⟨rfl, hS⟩)
    go_ret
    exact ⟨rfl, hb0.trans (Below.mono hS hb0.size)⟩
  clear hv1 KR
  have hz := chk_okZ hR.chk
  have hs := chk_few hR.chk
  have hnil := chF_nil hR.ch
  have ht : ∀ x ∈ f.lg, (-1000000 ≤ x.dep ∧ x.dep ≤ 1000000) ∧ -1000000 ≤ x.arr ∧ x.arr ≤ 1000000 := fun x hx => lgs_times hnil.2.2.1 hx
  have l40 : p.l.length ≤ 40 := by have := hR.la; omega
  have l100 : f.lg.length ≤ 100 := by have := hR.lg; omega
  have KL1 : Hid (∀ W, SW w5 W → Calls Tryz.prog 20 #[encP p, encFl f, .int .i64 day] W fun e w' => ∃ v, e = .returned (.tuple #[v, .int .i64 (legE f day)]) ∧ RowL 8 encDt w' v (legF p.l f day) ∧ SW w5 w') := Lib.hid (fun W h => (legs_any p f day W l40 (HP.out.more h).air hs hz (HG.out.more h) l100 ht bd.1 bd.2).mono (by rintro e w' ⟨v, rfl, hO, hb⟩; exact ⟨v, rfl, hO.rowL rtD.len, Below.trans h (Below.mono hb h.size)⟩))
  have KL2 : Hid (∀ W, SW w5 W → Calls Tryz.prog 21 #[encP p, encFl f, .int .i64 day] W fun e w' => ∃ v, e = .returned (.tuple #[v, .int .i64 (legE f day)]) ∧ RowL 8 encDt w' v (legF p.l f day) ∧ Below W.heap.size W w' ∧ SW w5 w') := Lib.hid (fun W h => (rlegsT_any p f day W l40 (HP.out.more h).air hz (HG.out.more h) l100 ht bd.1 bd.2).mono (by rintro e w' ⟨v, rfl, hO, hb⟩; exact ⟨v, rfl, hO.rowL rtD.len, hb, Below.trans h (Below.mono hb h.size)⟩))
  have KS1 : Hid (∀ W, SW w5 W → Calls Tryz.prog 22 #[encP p, encFl f, .int .i64 day] W fun e w' => ∃ v, e = .returned (.tuple #[v, .int .i64 (legE f day)]) ∧ RowL 7 encSg w' v (segsL (legF p.l f day)) ∧ Below W.heap.size W w' ∧ SW w5 w') := Lib.hid (fun W h => (segs_any p f day W l40 (HP.out.more h).air hs hz (HG.out.more h) l100 ht bd.1 bd.2).mono (by rintro e w' ⟨v, rfl, hO, hb⟩; exact ⟨v, rfl, hO.rowL rtG.len, hb, Below.trans h (Below.mono hb h.size)⟩))
  have KS2 : Hid (∀ W, SW w5 W → Calls Tryz.prog 23 #[encP p, encFl f, .int .i64 day] W fun e w' => ∃ v, e = .returned (.tuple #[v, .int .i64 (legE f day)]) ∧ RowL 7 encSg w' v (segsL (legF p.l f day)) ∧ Below W.heap.size W w' ∧ SW w5 w') := Lib.hid (fun W h => (rsegs_any p f day W l40 (HP.out.more h).air hz (HG.out.more h) l100 ht bd.1 bd.2).mono (by rintro e w' ⟨v, rfl, hO, hb⟩; exact ⟨v, rfl, hO.rowL rtG.len, hb, Below.trans h (Below.mono hb h.size)⟩))
  have HLn : Hid ((legF p.l f day).length ≤ 100) := Lib.hid (legF_len _ _ _ l100)
  have HSn : Hid ((segsL (legF p.l f day)).length ≤ 10000) := Lib.hid (segsL_len HLn.out)
  generalize legF p.l f day = L at *
  generalize segsL L = M at *
  generalize legE f day = e0 at *
  have hne : (e0 != e0) = false := by simp
  have hnl : ((L.length : Int) != (L.length : Int)) = false := by simp
  have hnm : ((M.length : Int) != (M.length : Int)) = false := by simp
  clear hz hs hnil ht hR l40
  have k0 := f0 _ hS
  have k1 := f1 _ hS
  have k2 := f2 _ hS
  have k3 := f3 _ hS
  have k4 := f4 _ hS
  have k5 := f5 _ hS
  have z0 := y0 _ hS
  have z1 := y1 _ hS
  refine Lib.hid ?_
  go_upto_region 10 with (first
    | (go_at_call 20; refine (KL1.out _ hS).mono ?_; rintro e w2 ⟨v2, rfl, hv2, hS⟩; obtain ⟨A2, c2, rfl, hvc2⟩ := id hv2; have k0 := f0 _ hS; have k1 := f1 _ hS; have k2 := f2 _ hS; have k3 := f3 _ hS; have k4 := f4 _ hS; have k5 := f5 _ hS; have z0 := y0 _ hS; have z1 := y1 _ hS)
    | (go_at_call 21; refine (KL2.out _ hS).mono ?_; rintro e w3 ⟨v3, rfl, hv3, hb3, hS⟩; have hv2 := hv2.more hb3; obtain ⟨A3, c3, rfl, hvc3⟩ := id hv3; have k0 := f0 _ hS; have k1 := f1 _ hS; have k2 := f2 _ hS; have k3 := f3 _ hS; have k4 := f4 _ hS; have k5 := f5 _ hS; have z0 := y0 _ hS; have z1 := y1 _ hS)
    | (go_at_call 22; refine (KS1.out _ hS).mono ?_; rintro e w4 ⟨v4, rfl, hv4, hb4, hS⟩; have hv2 := hv2.more hb4; have hv3 := hv3.more hb4; obtain ⟨A4, c4, rfl, hvc4⟩ := id hv4; have k0 := f0 _ hS; have k1 := f1 _ hS; have k2 := f2 _ hS; have k3 := f3 _ hS; have k4 := f4 _ hS; have k5 := f5 _ hS; have z0 := y0 _ hS; have z1 := y1 _ hS)
    | (go_at_call 23; refine (KS2.out _ hS).mono ?_; rintro e w6 ⟨v6, rfl, hv6, hb6, hS⟩; have hv2 := hv2.more hb6; have hv3 := hv3.more hb6; have hv4 := hv4.more hb6; obtain ⟨A6, c6, rfl, hvc6⟩ := id hv6))
  clear hvc2 hvc3 hvc4 hvc6 k0 k1 k2 k3 k4 k5 z0 z1 hb3 hb4 hb6
  have H2 := Lib.hid hv2
  have H3 := Lib.hid hv3
  have H4 := Lib.hid hv4
  have H6 := Lib.hid hv6
  clear hv2 hv3 hv4 hv6
  go_loopw [15] (fun vi wr => ∃ k : Nat, k ≤ L.length ∧ vi = .int .i64 k ∧ SW w6 wr) (fun vi _ => L.length - (intOf vi).toNat)
  case atStart => exact ⟨0, Nat.zero_le _, rfl, Below.refl _ _⟩
  case round =>
    obtain ⟨k, hk, rfl, hSr⟩ := hrel
    have kb : k ≤ 100 := by have := HLn.out; omega
    by_cases hlt : k < L.length
    · obtain ⟨y, hy⟩ : ∃ y, L[k]? = some y := ⟨_, List.getElem?_eq_getElem hlt⟩
      obtain ⟨b, o, e1, hbl, hc⟩ := RowL.at8 (H2.out.more hSr) hy
      cases e1
      obtain ⟨b', o', e1, hbl', hc'⟩ := RowL.at8 (H3.out.more hSr) hy
      cases e1
      have i2 : (k : Int) < (L.length : Int) := by omega
      have g0 := hc 0 _ rfl
      have m0 := hc' 0 _ rfl
      rw [Nat.add_zero] at g0 m0
      have g0 := SW.cell g0
      have m0 := SW.cell m0
      have g1 := SW.cell (hc 1 _ rfl)
      have m1 := SW.cell (hc' 1 _ rfl)
      have g2 := SW.cell (hc 2 _ rfl)
      have m2 := SW.cell (hc' 2 _ rfl)
      have g3 := SW.cell (hc 3 _ rfl)
      have m3 := SW.cell (hc' 3 _ rfl)
      have g4 := SW.cell (hc 4 _ rfl)
      have m4 := SW.cell (hc' 4 _ rfl)
      have g5 := SW.cell (hc 5 _ rfl)
      have m5 := SW.cell (hc' 5 _ rfl)
      have g6 := SW.cell (hc 6 _ rfl)
      have m6 := SW.cell (hc' 6 _ rfl)
      have g7 := SW.cell (hc 7 _ rfl)
      have m7 := SW.cell (hc' 7 _ rfl)
      have s0 : (y.car.toList == y.car.toList) = true := by simp
      clear hc hc' hy
      go_wp2
      have hNe : Nonempty (Wd (SW wr)) := ⟨⟨_, SW.drew _⟩⟩
      refine quietS (S := SW wr) (by kernel_rfl) (by kernel_rfl) (SW.drew _) ?_
      repeat (first | go_big_quiet_skip | (go_big_quiet_want; go_big_quiet_op; first | go_big_quiet_on | go_big_quiet_call ((fail))))
      refine wpQuiet_nil ?_
      rintro W ⟨⟨_, hW⟩, rfl⟩
      go_wp2
      go_roundw
      case rel => exact ⟨k + 1, by omega, by go_num, Below.trans hSr (Below.mono hW hSr.size)⟩
      case measure => simp [intOf]; omega
    · have i2 : ¬ (k : Int) < (L.length : Int) := by omega
      have hS6 : SW w5 wr := Below.trans hS (Below.mono hSr hS.size)
      go_wp2
      go_loopw [16] (fun vi wq => ∃ k : Nat, k ≤ M.length ∧ vi = .int .i64 k ∧ SW w6 wq) (fun vi _ => M.length - (intOf vi).toNat)
      case atStart => exact ⟨0, Nat.zero_le _, rfl, hSr⟩
      case round =>
        clear hSr hS6 hk kb
        obtain ⟨j, hj, rfl, hSr⟩ := hrel
        have jb : j ≤ 10000 := by have := HSn.out; omega
        by_cases hlt : j < M.length
        · obtain ⟨y, hy⟩ : ∃ y, M[j]? = some y := ⟨_, List.getElem?_eq_getElem hlt⟩
          obtain ⟨b, o, e1, hbl, hc⟩ := RowL.at7 (H4.out.more hSr) hy
          cases e1
          obtain ⟨b', o', e1, hbl', hc'⟩ := RowL.at7 (H6.out.more hSr) hy
          cases e1
          have j2 : (j : Int) < (M.length : Int) := by omega
          have g0 := hc 0 _ rfl
          have m0 := hc' 0 _ rfl
          rw [Nat.add_zero] at g0 m0
          have g0 := SW.cell g0
          have m0 := SW.cell m0
          have g1 := SW.cell (hc 1 _ rfl)
          have m1 := SW.cell (hc' 1 _ rfl)
          have g2 := SW.cell (hc 2 _ rfl)
          have m2 := SW.cell (hc' 2 _ rfl)
          have g3 := SW.cell (hc 3 _ rfl)
          have m3 := SW.cell (hc' 3 _ rfl)
          have g4 := SW.cell (hc 4 _ rfl)
          have m4 := SW.cell (hc' 4 _ rfl)
          have g5 := SW.cell (hc 5 _ rfl)
          have m5 := SW.cell (hc' 5 _ rfl)
          have g6 := SW.cell (hc 6 _ rfl)
          have m6 := SW.cell (hc' 6 _ rfl)
          clear hc hc' hy
          go_wp2
          have hNe : Nonempty (Wd (SW wr)) := ⟨⟨_, SW.drew _⟩⟩
          refine quietS (S := SW wr) (by kernel_rfl) (by kernel_rfl) (SW.drew _) ?_
          repeat (first | go_big_quiet_skip | (go_big_quiet_want; go_big_quiet_op; first | go_big_quiet_on | go_big_quiet_call ((fail))))
          refine wpQuiet_nil ?_
          rintro W ⟨⟨_, hW⟩, rfl⟩
          go_wp2
          go_roundw
          case rel => exact ⟨j + 1, by omega, by go_num, Below.trans hSr (Below.mono hW hSr.size)⟩
          case measure => simp [intOf]; omega
        · have j2 : ¬ (j : Int) < (M.length : Int) := by omega
          have hS6 : SW w5 wr := Below.trans hS (Below.mono hSr hS.size)
          go_wp2_with (go_at_call 15; refine (KW.out _ hS6).mono ?_; rintro e w9 ⟨rfl, hS⟩)
          go_ret
          exact ⟨rfl, hb0.trans (Below.mono hS hb0.size)⟩

end Go.Proofs.YtfgmlbmjjihhfaaGreatDoor
