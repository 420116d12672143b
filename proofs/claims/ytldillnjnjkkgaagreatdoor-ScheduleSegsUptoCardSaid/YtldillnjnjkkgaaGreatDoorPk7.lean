/- Words and walks that the laws below ask: SchA, SchB, FrameH. -/
import Derived.Shelf.Abstract
import Derived.Test.YtldillnjnjkkgaaGreatDoorPk3
import Derived.Test.YtldillnjnjkkgaaGreatDoorPk6
/- Timetables as plain data; walk of the reference's On. -/
namespace Go.Proofs.YtldillnjnjkkgaaGreatDoor
open Go.RowKit Go.Shelf
set_option linter.unusedSimpArgs false
set_option linter.unusedVariables false

def encF6 (f : FV) : List Value := [.string f.car, .int .i64 f.num, .int .i64 f.pf, .int .i64 f.pt, .int .i64 f.pd, .slice f.A f.lg.length f.c]
theorem RowL.at6 {w : World} {A : Option Addr} {n c : Nat} {L : List FV} (h : RowL 6 encF6 w (.slice A n c) L) {k : Nat} {y : FV} (hk : L[k]? = some y) : ∃ b o, A = some ⟨b, o, none⟩ ∧ b < w.heap.size ∧ ∀ j u, (encF6 y)[j]? = some u → w.cell? ⟨b, o + k * 6 + j, none⟩ = some u := by
  obtain ⟨hlt, rfl⟩ := List.getElem?_eq_some_iff.1 hk
  obtain ⟨b, o, h1, h2, h3⟩ := h.at rfl hlt
  exact ⟨b, o, h1, h2, h3⟩
/-- whether a flight is the one that is asked for on a day -/
def onB (car : ByteArray) (num day : Int) (f : FV) : Bool := (f.car.toList == car.toList) && ((f.num == num) && Per.hasQ (f.pf, f.pt, f.pd) day)
/-- no flight -/
def fliZ : FV := ⟨noB, 0, 0, 0, 0, none, 0, []⟩
/-- the flight that is operated on a day -/
def onF (l : List FV) (car : ByteArray) (num day : Int) : Option FV := l.find? (onB car num day)
theorem onF_some {l : List FV} {car : ByteArray} {num day : Int} {k : Nat} {f : FV} (hk : l[k]? = some f) (hp : onB car num day f = true) (hno : ∀ (j : Nat) (g : FV), j < k → l[j]? = some g → onB car num day g = false) : onF l car num day = some f := by
  unfold onF
  obtain ⟨hlt, rfl⟩ := List.getElem?_eq_some_iff.1 hk
  rw [List.find?_eq_some_iff_getElem]
  refine ⟨hp, k, hlt, rfl, fun j hj => ?_⟩
  rw [hno j _ hj (List.getElem?_eq_getElem (by omega))]
  rfl
theorem onF_none {l : List FV} {car : ByteArray} {num day : Int} (hno : ∀ (j : Nat) (g : FV), j < l.length → l[j]? = some g → onB car num day g = false) : onF l car num day = none := by
  unfold onF
  rw [List.find?_eq_none]
  intro x hx
  obtain ⟨k, hk⟩ := List.getElem?_of_mem hx
  rw [hno k x (List.getElem?_eq_some_iff.1 hk).1 hk]
  simp

theorem lt_of_cell2 {w : World} {n : Nat} {o : Obj} (h : w.heap[n]? = some o) : n < w.heap.size := by
  by_cases e : n < w.heap.size
  · exact e
  · rw [Array.getElem?_eq_none (by omega)] at h; cases h
/-- six stores into a block of a flight -/
def S6 (w : World) (N : Nat) (v0 v1 v2 v3 v4 v5 : Value) : World := (((((w.setCell ⟨N, 0, none⟩ v0).setCell ⟨N, 1, none⟩ v1).setCell ⟨N, 2, none⟩ v2).setCell ⟨N, 3, none⟩ v3).setCell ⟨N, 4, none⟩ v4).setCell ⟨N, 5, none⟩ v5
theorem S6.heap {w : World} {N : Nat} {a0 a1 a2 a3 a4 a5 : Value} (h : w.heap[N]? = some (.cells #[a0, a1, a2, a3, a4, a5] fliT (0, 0))) (v0 v1 v2 v3 v4 v5 : Value) : (S6 w N v0 v1 v2 v3 v4 v5).heap[N]? = some (.cells #[v0, v1, v2, v3, v4, v5] fliT (0, 0)) := by
  have e1 : (w.setCell ⟨N, 0, none⟩ v0).heap[N]? = some (.cells #[v0, a1, a2, a3, a4, a5] fliT (0, 0)) := heap_setCell_same w N 0 _ fliT v0 h
  have e2 : ((w.setCell ⟨N, 0, none⟩ v0).setCell ⟨N, 1, none⟩ v1).heap[N]? = some (.cells #[v0, v1, a2, a3, a4, a5] fliT (0, 0)) := heap_setCell_same _ N 1 _ fliT v1 e1
  have e3 : (((w.setCell ⟨N, 0, none⟩ v0).setCell ⟨N, 1, none⟩ v1).setCell ⟨N, 2, none⟩ v2).heap[N]? = some (.cells #[v0, v1, v2, a3, a4, a5] fliT (0, 0)) := heap_setCell_same _ N 2 _ fliT v2 e2
  have e4 : ((((w.setCell ⟨N, 0, none⟩ v0).setCell ⟨N, 1, none⟩ v1).setCell ⟨N, 2, none⟩ v2).setCell ⟨N, 3, none⟩ v3).heap[N]? = some (.cells #[v0, v1, v2, v3, a4, a5] fliT (0, 0)) := heap_setCell_same _ N 3 _ fliT v3 e3
  have e5 : (((((w.setCell ⟨N, 0, none⟩ v0).setCell ⟨N, 1, none⟩ v1).setCell ⟨N, 2, none⟩ v2).setCell ⟨N, 3, none⟩ v3).setCell ⟨N, 4, none⟩ v4).heap[N]? = some (.cells #[v0, v1, v2, v3, v4, a5] fliT (0, 0)) := heap_setCell_same _ N 4 _ fliT v4 e4
  exact heap_setCell_same _ N 5 _ fliT v5 e5
theorem S6.but (w : World) (N : Nat) (v0 v1 v2 v3 v4 v5 : Value) : But w (S6 w N v0 v1 v2 v3 v4 v5) (fun k => k = N) :=
  (((((But.setCell w N 0 v0).trans (But.setCell _ N 1 v1) (fun _ _ h => h)).trans (But.setCell _ N 2 v2) (fun _ _ h => h)).trans (But.setCell _ N 3 v3) (fun _ _ h => h)).trans (But.setCell _ N 4 v4) (fun _ _ h => h)).trans (But.setCell _ N 5 v5) (fun _ _ h => h)

set_option maxRecDepth 100000 in
set_option maxHeartbeats 8000000 in
theorem ron_any (v : Value) (l : List FV) (car : ByteArray) (num day : Int) (w : World) (hv : RowL 6 encF6 w v l) (hn : l.length ≤ 1000) (h0 : -9223372036854775808 ≤ day) (h1 : day ≤ 9223372036854775807) :
    Calls Tryz.prog 27 #[v, .string car, .int .i64 num, .int .i64 day] w fun e w' => e = .returned (.tuple #[encFl ((onF l car num day).getD fliZ), .bool (onF l car num day).isSome]) ∧ Below w.heap.size w w' := by
  have hb0 := bel_alloc w (.cells #[.string noB, .int .i64 0, .int .i64 0, .int .i64 0, .int .i64 0, .slice none 0 0] fliT)
  have hN := heap_alloc_new w (.cells #[.string noB, .int .i64 0, .int .i64 0, .int .i64 0, .int .i64 0, .slice none 0 0] fliT)
  obtain ⟨A, c, rfl, hvc⟩ := id hv
  have HV := Lib.hid (hv.more hb0)
  have HH := Lib.hid (fun (q : Int × Int × Int) W => Per.rhas_any q.1 q.2.1 q.2.2 day W h0 h1)
  clear hv hvc
  go_enter Tryz.func27, Tryz.ntmps27
  go_upto_region 2 with fail
  generalize hw5 : w.alloc (.cells #[.string noB, .int .i64 0, .int .i64 0, .int .i64 0, .int .i64 0, .slice none 0 0] fliT) = w5 at *
  clear hw5
  have HN := Lib.hid hN
  have HLT5 : Hid (w.heap.size < w5.heap.size) := Lib.hid (lt_of_cell2 hN)
  clear hN
  go_loopw [10] (fun vi wr => ∃ k : Nat, k ≤ l.length ∧ vi = .int .i64 k ∧ Hid (∀ (j : Nat) (g : FV), j < k → l[j]? = some g → onB car num day g = false) ∧ SW w5 wr) (fun vi _ => l.length - (intOf vi).toNat)
  case atStart => exact ⟨0, Nat.zero_le _, rfl, Lib.hid (fun j g h => absurd h (by omega)), Below.refl _ _⟩
  case round =>
    obtain ⟨k, hk, rfl, HK, hS⟩ := hrel
    by_cases hlt : k < l.length
    · obtain ⟨f, hf⟩ : ∃ f, l[k]? = some f := ⟨_, List.getElem?_eq_getElem hlt⟩
      obtain ⟨b, o, e1, hbl, hc⟩ := RowL.at6 (HV.out.more hS) hf
      cases e1
      have i2 : (k : Int) < (l.length : Int) := by omega
      have d0 := hc 0 _ rfl
      have d1 := hc 1 _ rfl
      have d2 := hc 2 _ rfl
      have d3 := hc 3 _ rfl
      have d4 := hc 4 _ rfl
      have d5 := hc 5 _ rfl
      rw [Nat.add_zero] at d0
      have HQ := Lib.hid (HH.out (f.pf, f.pt, f.pd))
      have HF := Lib.hid hf
      clear hc hf hbl
      have HX : Hid (onB car num day f = false → ∀ (j : Nat) (g : FV), j < k + 1 → l[j]? = some g → onB car num day g = false) := Lib.hid (fun h j g hj hg => by
        by_cases e : j = k
        · subst e
          rw [HF.out] at hg
          cases hg
          exact h
        · exact HK.out j g (by omega) hg)
      cases h1 : (f.car.toList == car.toList) with
      | false =>
        have HY := Lib.hid (HX.out (by unfold onB; rw [h1]; rfl))
        go_wp2
        go_roundw
        case rel => exact ⟨k + 1, by omega, by go_num, HY, hS⟩
        case measure => simp [intOf]; omega
      | true =>
      cases h2 : (f.num == num) with
      | false =>
        have HY := Lib.hid (HX.out (by unfold onB; rw [h1, h2]; rfl))
        go_wp2
        go_roundw
        case rel => exact ⟨k + 1, by omega, by go_num, HY, hS⟩
        case measure => simp [intOf]; omega
      | true =>
      cases h3 : Per.hasQ (f.pf, f.pt, f.pd) day with
      | false =>
        have HY := Lib.hid (HX.out (by unfold onB; rw [h1, h2, h3]; rfl))
        dsimp only at HQ
        rw [h3] at HQ
        go_wp2_with (go_at_call 87; refine (HQ.out _).mono ?_; rintro e w1 ⟨rfl, hb1⟩)
        go_roundw
        case rel => exact ⟨k + 1, by omega, by go_num, HY, Below.trans hS (Below.mono hb1 hS.size)⟩
        case measure => simp [intOf]; omega
      | true =>
        have HR : Hid (onF l car num day = some f) := Lib.hid (onF_some HF.out (by unfold onB; rw [h1, h2, h3]; rfl) HK.out)
        dsimp only at HQ
        rw [h3] at HQ
        go_upto_region 5 with (go_at_call 87; refine (HQ.out _).mono ?_; rintro e w1 ⟨rfl, hb1⟩)
        have hSq : SW w5 w1 := Below.trans hS (Below.mono hb1 hS.size)
        have d0 := bel_cell (Below.mono hb1 (Nat.le_refl _)) d0
        have d1 := bel_cell (Below.mono hb1 (Nat.le_refl _)) d1
        have d2 := bel_cell (Below.mono hb1 (Nat.le_refl _)) d2
        have d3 := bel_cell (Below.mono hb1 (Nat.le_refl _)) d3
        have d4 := bel_cell (Below.mono hb1 (Nat.le_refl _)) d4
        have d5 := bel_cell (Below.mono hb1 (Nat.le_refl _)) d5
        have hx := (hSq.block _ HLT5.out).trans HN.out
        have n0 := (cell_of_row _ _ 0 _ _ (0, 0) hx).trans (show _ = some _ from rfl)
        have n1 := (cell_of_row _ _ 1 _ _ (0, 0) hx).trans (show _ = some _ from rfl)
        have n2 := (cell_of_row _ _ 2 _ _ (0, 0) hx).trans (show _ = some _ from rfl)
        have n3 := (cell_of_row _ _ 3 _ _ (0, 0) hx).trans (show _ = some _ from rfl)
        have n4 := (cell_of_row _ _ 4 _ _ (0, 0) hx).trans (show _ = some _ from rfl)
        have n5 := (cell_of_row _ _ 5 _ _ (0, 0) hx).trans (show _ = some _ from rfl)
        have z0 := frozen_of_row _ _ 0 _ _ hx
        have z1 := frozen_of_row _ _ 1 _ _ hx
        have z2 := frozen_of_row _ _ 2 _ _ hx
        have z3 := frozen_of_row _ _ 3 _ _ hx
        have z4 := frozen_of_row _ _ 4 _ _ hx
        have z5 := frozen_of_row _ _ 5 _ _ hx
        have hwb := hb0.trans (Below.mono hSq hb0.size)
        have HX2 : Hid (∀ W, W = S6 w1 w.heap.size (.string f.car) (.int .i64 f.num) (.int .i64 f.pf) (.int .i64 f.pt) (.int .i64 f.pd) (.slice f.A f.lg.length f.c) → W.heap[w.heap.size]? = some (.cells #[.string f.car, .int .i64 f.num, .int .i64 f.pf, .int .i64 f.pt, .int .i64 f.pd, .slice f.A f.lg.length f.c] fliT (0, 0)) ∧ Below w.heap.size w W) := Lib.hid (fun W h => by rw [h]; exact ⟨S6.heap hx _ _ _ _ _ _, hwb.trans ((S6.but _ _ _ _ _ _ _ _).below hwb.size (fun k hk => by omega))⟩)
        clear hx hwb
        go_wp2
        obtain ⟨hxx, hbb⟩ := HX2.out _ rfl
        unfold S6 at hxx hbb
        generalize hWW : (((((w1.setCell ⟨w.heap.size, 0, none⟩ (.string f.car)).setCell ⟨w.heap.size, 1, none⟩ (.int .i64 f.num)).setCell ⟨w.heap.size, 2, none⟩ (.int .i64 f.pf)).setCell ⟨w.heap.size, 3, none⟩ (.int .i64 f.pt)).setCell ⟨w.heap.size, 4, none⟩ (.int .i64 f.pd)).setCell ⟨w.heap.size, 5, none⟩ (.slice f.A f.lg.length f.c) = WW at *
        clear hWW n0 n1 n2 n3 n4 n5 z0 z1 z2 z3 z4 z5
        have c0 := (cell_of_row WW _ 0 _ _ (0, 0) hxx).trans (show _ = some _ from rfl)
        have c1 := (cell_of_row WW _ 1 _ _ (0, 0) hxx).trans (show _ = some _ from rfl)
        have c2 := (cell_of_row WW _ 2 _ _ (0, 0) hxx).trans (show _ = some _ from rfl)
        have c3 := (cell_of_row WW _ 3 _ _ (0, 0) hxx).trans (show _ = some _ from rfl)
        have c4 := (cell_of_row WW _ 4 _ _ (0, 0) hxx).trans (show _ = some _ from rfl)
        have c5 := (cell_of_row WW _ 5 _ _ (0, 0) hxx).trans (show _ = some _ from rfl)
        rw [HR.out]
        refine bodyPost_ret (v := .tuple #[encFl f, .bool true]) ?_ rfl ⟨rfl, hbb⟩
        simp [results, Tryz.results27, go_sem, c0, c1, c2, c3, c4, c5]
    · have hk' : k = l.length := by omega
      have HR : Hid (onF l car num day = none) := Lib.hid (onF_none (by rw [← hk']; exact HK.out))
      have i2 : ¬ (k : Int) < (l.length : Int) := by omega
      go_upto_region 6 with fail
      have hx := (hS.block _ HLT5.out).trans HN.out
      have n0 := (cell_of_row _ _ 0 _ _ (0, 0) hx).trans (show _ = some _ from rfl)
      have n1 := (cell_of_row _ _ 1 _ _ (0, 0) hx).trans (show _ = some _ from rfl)
      have n2 := (cell_of_row _ _ 2 _ _ (0, 0) hx).trans (show _ = some _ from rfl)
      have n3 := (cell_of_row _ _ 3 _ _ (0, 0) hx).trans (show _ = some _ from rfl)
      have n4 := (cell_of_row _ _ 4 _ _ (0, 0) hx).trans (show _ = some _ from rfl)
      have n5 := (cell_of_row _ _ 5 _ _ (0, 0) hx).trans (show _ = some _ from rfl)
      have z0 := frozen_of_row _ _ 0 _ _ hx
      have z1 := frozen_of_row _ _ 1 _ _ hx
      have z2 := frozen_of_row _ _ 2 _ _ hx
      have z3 := frozen_of_row _ _ 3 _ _ hx
      have z4 := frozen_of_row _ _ 4 _ _ hx
      have z5 := frozen_of_row _ _ 5 _ _ hx
      have hwb := hb0.trans (Below.mono hS hb0.size)
      have HX2 : Hid (∀ W, W = S6 wr w.heap.size (.string noB) (.int .i64 0) (.int .i64 0) (.int .i64 0) (.int .i64 0) (.slice none 0 0) → W.heap[w.heap.size]? = some (.cells #[.string noB, .int .i64 0, .int .i64 0, .int .i64 0, .int .i64 0, .slice none 0 0] fliT (0, 0)) ∧ Below w.heap.size w W) := Lib.hid (fun W h => by rw [h]; exact ⟨S6.heap hx _ _ _ _ _ _, hwb.trans ((S6.but _ _ _ _ _ _ _ _).below hwb.size (fun k hk => by omega))⟩)
      clear hx hwb
      go_wp2
      obtain ⟨hxx, hbb⟩ := HX2.out _ rfl
      unfold S6 at hxx hbb
      generalize hWW : (((((wr.setCell ⟨w.heap.size, 0, none⟩ (.string noB)).setCell ⟨w.heap.size, 1, none⟩ (.int .i64 0)).setCell ⟨w.heap.size, 2, none⟩ (.int .i64 0)).setCell ⟨w.heap.size, 3, none⟩ (.int .i64 0)).setCell ⟨w.heap.size, 4, none⟩ (.int .i64 0)).setCell ⟨w.heap.size, 5, none⟩ (.slice none 0 0) = WW at *
      clear hWW n0 n1 n2 n3 n4 n5 z0 z1 z2 z3 z4 z5
      have c0 := (cell_of_row WW _ 0 _ _ (0, 0) hxx).trans (show _ = some _ from rfl)
      have c1 := (cell_of_row WW _ 1 _ _ (0, 0) hxx).trans (show _ = some _ from rfl)
      have c2 := (cell_of_row WW _ 2 _ _ (0, 0) hxx).trans (show _ = some _ from rfl)
      have c3 := (cell_of_row WW _ 3 _ _ (0, 0) hxx).trans (show _ = some _ from rfl)
      have c4 := (cell_of_row WW _ 4 _ _ (0, 0) hxx).trans (show _ = some _ from rfl)
      have c5 := (cell_of_row WW _ 5 _ _ (0, 0) hxx).trans (show _ = some _ from rfl)
      rw [HR.out]
      refine bodyPost_ret (v := .tuple #[encFl fliZ, .bool false]) ?_ rfl ⟨rfl, hbb⟩
      simp [results, Tryz.results27, go_sem, c0, c1, c2, c3, c4, c5, fliZ]

end Go.Proofs.YtldillnjnjkkgaaGreatDoor

/- Walks of slices.IndexFunc over flights and over segments. -/
namespace Go.Proofs.YtldillnjnjkkgaaGreatDoor
open Go.RowKit Go.Shelf
set_option linter.unusedSimpArgs false
set_option linter.unusedVariables false

/-- the slice value v holds the flights l, with their legs -/
structure TblL (w : World) (v : Value) (l : List FV) : Prop where
  row : RowL 6 encF6 w v l
  legs : ∀ f ∈ l, LegL w (.slice f.A f.lg.length f.c) f.lg
theorem TblL.more {w w' : World} {v : Value} {l : List FV} (h : TblL w v l) (hb : Below w.heap.size w w') : TblL w' v l := ⟨h.row.more hb, fun f hf => (h.legs f hf).more hb⟩

/-- r is the first place at which p is true, or -1 -/
def IdxF (p : FV → Bool) (L : List FV) (r : Int) : Prop := (r = -1 ∧ ∀ x ∈ L, p x = false) ∨ (∃ (k : Nat) (y : FV), r = (k : Int) ∧ L[k]? = some y ∧ p y = true ∧ ∀ (j : Nat) (z : FV), j < k → L[j]? = some z → p z = false)
set_option maxHeartbeats 4000000 in
set_option maxRecDepth 100000 in
theorem indexF_any (g : Nat) (cb : Array Value) (A : Option Addr) (c : Nat) (L : List FV) (p : FV → Bool) (w : World) (eg : ∀ args w, (callFunc g args).run Tryz.prog w = .ok (.enter g args) w) (hl : L.length ≤ 100000)
    (hv : RowL 6 encF6 w (.slice A L.length c) L)
    (hf : ∀ (a : FV) (W : World), a ∈ L → Below w.heap.size w W → Calls Tryz.prog g (#[encFl a] ++ cb) W fun e w' => e = .returned (.bool (p a)) ∧ Below W.heap.size W w') :
    Calls Tryz.prog 164 #[.slice A L.length c, .func (.func g) #[] cb] w fun e w' => ∃ r : Int, e = .returned (.int .i64 r) ∧ Hid (IdxF p L r) ∧ Below w.heap.size w w' := by
  have HF := Lib.hid hf
  have HC := Lib.hid hv
  clear hf hv
  go_enter Tryz.func164, Tryz.ntmps164
  go_wp2
  go_loopw [8] (fun vi wr => ∃ k : Nat, k ≤ L.length ∧ vi = .int .i64 k ∧ Hid (∀ (j : Nat) (z : FV), j < k → L[j]? = some z → p z = false) ∧ Below w.heap.size w wr) (fun vi _ => L.length - (intOf vi).toNat)
  case atStart => exact ⟨0, Nat.zero_le _, rfl, Lib.hid (fun j z h => by omega), Below.refl _ _⟩
  case round =>
    obtain ⟨k, hk, rfl, HK, hb⟩ := hrel
    by_cases hlt : k < L.length
    · obtain ⟨y, hy⟩ : ∃ y, L[k]? = some y := ⟨_, List.getElem?_eq_getElem hlt⟩
      obtain ⟨b, o, e1, hbl, hcc⟩ := RowL.at6 (HC.out.more hb) hy
      cases e1
      have z0 := hcc 0 _ rfl
      have z1 := hcc 1 _ rfl
      have z2 := hcc 2 _ rfl
      have z3 := hcc 3 _ rfl
      have z4 := hcc 4 _ rfl
      have z5 := hcc 5 _ rfl
      rw [Nat.add_zero] at z0
      have i2 : (k : Int) < (L.length : Int) := by omega
      have hcl := HF.out y wr (List.mem_of_getElem? hy) hb
      have HY := Lib.hid hy
      clear hcc hy hbl
      cases hp : p y <;> rw [hp] at hcl
      · have HK2 : Hid (∀ (j : Nat) (z : FV), j < k + 1 → L[j]? = some z → p z = false) := Lib.hid (fun j z hj hz => by
          by_cases e : j = k
          · subst e; rw [HY.out] at hz; cases hz; exact hp
          · exact HK.out j z (by omega) hz)
        clear hp
        go_wp2_with (refine hcl.mono ?_; rintro e w' ⟨rfl, hb'⟩)
        go_roundw
        case rel => exact ⟨k + 1, by omega, by go_num, HK2, hb.trans (hb'.mono hb.size)⟩
        case measure => simp [intOf]; omega
      · have HR : Hid (IdxF p L (k : Int)) := Lib.hid (.inr ⟨k, y, rfl, HY.out, hp, HK.out⟩)
        clear hp
        go_wp2_with (refine hcl.mono ?_; rintro e w' ⟨rfl, hb'⟩)
        go_ret
        exact ⟨_, rfl, HR, hb.trans (hb'.mono hb.size)⟩
    · have HR : Hid (IdxF p L (-1)) := Lib.hid (.inl ⟨rfl, fun x hx => by
        obtain ⟨j, hj⟩ := List.getElem?_of_mem hx
        exact HK.out j x (by have := (List.getElem?_eq_some_iff.1 hj).1; omega) hj⟩)
      go_wp2
      go_ret
      exact ⟨-1, rfl, HR, hb⟩

theorem RowL.at7 {w : World} {A : Option Addr} {n c : Nat} {L : List Sg} (h : RowL 7 encSg w (.slice A n c) L) {k : Nat} {y : Sg} (hk : L[k]? = some y) : ∃ b o, A = some ⟨b, o, none⟩ ∧ b < w.heap.size ∧ ∀ j u, (encSg y)[j]? = some u → w.cell? ⟨b, o + k * 7 + j, none⟩ = some u := by
  obtain ⟨hlt, rfl⟩ := List.getElem?_eq_some_iff.1 hk
  obtain ⟨b, o, h1, h2, h3⟩ := h.at rfl hlt
  exact ⟨b, o, h1, h2, h3⟩

/-- r is the first place at which p is true, or -1 -/
def IdxS (p : Sg → Bool) (L : List Sg) (r : Int) : Prop := (r = -1 ∧ ∀ x ∈ L, p x = false) ∨ (∃ (k : Nat) (y : Sg), r = (k : Int) ∧ L[k]? = some y ∧ p y = true ∧ ∀ (j : Nat) (z : Sg), j < k → L[j]? = some z → p z = false)
set_option maxHeartbeats 4000000 in
set_option maxRecDepth 100000 in
theorem indexS_any (g : Nat) (cb : Array Value) (A : Option Addr) (c : Nat) (L : List Sg) (p : Sg → Bool) (w : World) (eg : ∀ args w, (callFunc g args).run Tryz.prog w = .ok (.enter g args) w) (hl : L.length ≤ 100000)
    (hv : RowL 7 encSg w (.slice A L.length c) L)
    (hf : ∀ (a : Sg) (W : World), a ∈ L → Below w.heap.size w W → Calls Tryz.prog g (#[encS7 a] ++ cb) W fun e w' => e = .returned (.bool (p a)) ∧ Below W.heap.size W w') :
    Calls Tryz.prog 168 #[.slice A L.length c, .func (.func g) #[] cb] w fun e w' => ∃ r : Int, e = .returned (.int .i64 r) ∧ Hid (IdxS p L r) ∧ Below w.heap.size w w' := by
  have HF := Lib.hid hf
  have HC := Lib.hid hv
  clear hf hv
  go_enter Tryz.func168, Tryz.ntmps168
  go_wp2
  go_loopw [8] (fun vi wr => ∃ k : Nat, k ≤ L.length ∧ vi = .int .i64 k ∧ Hid (∀ (j : Nat) (z : Sg), j < k → L[j]? = some z → p z = false) ∧ Below w.heap.size w wr) (fun vi _ => L.length - (intOf vi).toNat)
  case atStart => exact ⟨0, Nat.zero_le _, rfl, Lib.hid (fun j z h => by omega), Below.refl _ _⟩
  case round =>
    obtain ⟨k, hk, rfl, HK, hb⟩ := hrel
    by_cases hlt : k < L.length
    · obtain ⟨y, hy⟩ : ∃ y, L[k]? = some y := ⟨_, List.getElem?_eq_getElem hlt⟩
      obtain ⟨b, o, e1, hbl, hcc⟩ := RowL.at7 (HC.out.more hb) hy
      cases e1
      have z0 := hcc 0 _ rfl
      have z1 := hcc 1 _ rfl
      have z2 := hcc 2 _ rfl
      have z3 := hcc 3 _ rfl
      have z4 := hcc 4 _ rfl
      have z5 := hcc 5 _ rfl
      have z6 := hcc 6 _ rfl
      rw [Nat.add_zero] at z0
      have i2 : (k : Int) < (L.length : Int) := by omega
      have hcl := HF.out y wr (List.mem_of_getElem? hy) hb
      have HY := Lib.hid hy
      clear hcc hy hbl
      cases hp : p y <;> rw [hp] at hcl
      · have HK2 : Hid (∀ (j : Nat) (z : Sg), j < k + 1 → L[j]? = some z → p z = false) := Lib.hid (fun j z hj hz => by
          by_cases e : j = k
          · subst e; rw [HY.out] at hz; cases hz; exact hp
          · exact HK.out j z (by omega) hz)
        clear hp
        go_wp2_with (refine hcl.mono ?_; rintro e w' ⟨rfl, hb'⟩)
        go_roundw
        case rel => exact ⟨k + 1, by omega, by go_num, HK2, hb.trans (hb'.mono hb.size)⟩
        case measure => simp [intOf]; omega
      · have HR : Hid (IdxS p L (k : Int)) := Lib.hid (.inr ⟨k, y, rfl, HY.out, hp, HK.out⟩)
        clear hp
        go_wp2_with (refine hcl.mono ?_; rintro e w' ⟨rfl, hb'⟩)
        go_ret
        exact ⟨_, rfl, HR, hb.trans (hb'.mono hb.size)⟩
    · have HR : Hid (IdxS p L (-1)) := Lib.hid (.inl ⟨rfl, fun x hx => by
        obtain ⟨j, hj⟩ := List.getElem?_of_mem hx
        exact HK.out j x (by have := (List.getElem?_eq_some_iff.1 hj).1; omega) hj⟩)
      go_wp2
      go_ret
      exact ⟨-1, rfl, HR, hb⟩

end Go.Proofs.YtldillnjnjkkgaaGreatDoor

/- Lists of flights, questions and pairs of lists among the arguments, opened. -/
namespace Go.Proofs.YtldillnjnjkkgaaGreatDoor
open Go.ChangeShapes Go.WideShapes Go.ChangeAt Go.RowKit
set_option linter.unusedSimpArgs false
set_option linter.unusedVariables false

theorem cellsR_of6 {l : List Value} (h : l.length = 6) : ∃ a b c d e f, l = [a, b, c, d, e, f] := by
  match l, h with
  | [a, b, c, d, e, f], _ => exact ⟨a, b, c, d, e, f, rfl⟩
instance : Inhabited FV := ⟨fliZ⟩
set_option maxRecDepth 100000 in
theorem read_flights {H : Type} {enc : TypeId × Value → H} {W : World} {n : Nat} {v : Value} {y : DataW H × List MemPlace} (h : DataW.trod enc Tryz.prog W 0 (fun _ => true) true n 40 [v] = some y) :
    ∃ (A : Option Addr) (c : Nat) (l : List FV), v = .slice A l.length c ∧ TblL W (.slice A l.length c) l ∧ (∀ f ∈ l, OkFl f) ∧ l.length < 9223372036854775808 := by
  have em : maxLen = 9223372036854775807 := by decide
  rcases Deep.open_slice Tryz.underlying40 h with ⟨hcs, _⟩ | ⟨a, len, cap, m', n, D, Pl, hcs, _, hl, hm, hmm, _, hx⟩
  · simp at hcs
    exact ⟨none, 0, [], hcs, ⟨⟨none, 0, rfl, .inl rfl⟩, fun a ha => by simp at ha⟩, fun a ha => by simp at ha, by simp⟩
  · simp at hcs hmm
    subst hcs hmm
    rcases Nat.eq_zero_or_pos len with h0 | h0
    · exact ⟨some a, m', [], by rw [h0]; rfl, ⟨⟨some a, m', rfl, .inl rfl⟩, fun a ha => by simp at ha⟩, fun a ha => by simp at ha, by simp⟩
    obtain ⟨b, off, spot⟩ := a
    obtain ⟨cs0, hc0, _⟩ := hx 0 (by omega)
    have hspot : spot = none := by
      rw [cells_fli] at hc0
      obtain ⟨_, hl0, hcell⟩ := World.cells?_some hc0
      have h1 := hcell 0 (by omega)
      rw [List.getElem?_eq_getElem (by omega)] at h1
      simpa [Addr.add] using World.cell?_spot h1
    subst hspot
    have hadd : ∀ i, (⟨b, off, none⟩ : Addr).add i = ⟨b, off + i, none⟩ := fun i => by unfold Addr.add; split <;> simp_all
    have each : ∀ i, i < len → ∃ x : FV, (∀ j u, (encF6 x)[j]? = some u → W.cell? ⟨b, off + i * 6 + j, none⟩ = some u) ∧ LegL W (.slice x.A x.lg.length x.c) x.lg ∧ OkFl x := fun i hi => by
      obtain ⟨cs', h1, h2⟩ := hx i (by omega)
      rw [cells_fli, hadd] at h1
      obtain ⟨_, hlen, hcell⟩ := World.cells?_some h1
      obtain ⟨c0, c1, c2, c3, c4, c5, rfl⟩ := cellsR_of6 hlen
      obtain ⟨fv, e, h3, h4⟩ := read_flight h2
      have e' : ([c0, c1, c2, c3, c4, c5] : List Value) = encF6 fv := congrArg Array.toList e
      rw [e'] at hcell
      refine ⟨fv, fun j u hu => ?_, h3, h4⟩
      have hj : j < 6 := (List.getElem?_eq_some_iff.1 hu).1
      have hadd2 : ∀ i, (⟨b, off + i * 6, none⟩ : Addr).add j = ⟨b, off + i * 6 + j, none⟩ := fun i => by unfold Addr.add; split <;> simp_all
      have hc2 := hcell j hj
      rw [hadd2] at hc2
      rw [hc2]
      exact hu
    obtain ⟨f, hf⟩ := Deep.choose_lt each
    have el : ((List.range len).map f).length = len := by simp
    refine ⟨some ⟨b, off, none⟩, m', (List.range len).map f, by rw [el], ⟨⟨some ⟨b, off, none⟩, m', rfl, .inr ⟨b, off, rfl, World.block_lt_of_cell? _ _ ((hf 0 h0).1 0 _ rfl), fun i x j u hi hu => ?_⟩⟩, fun a ha => ?_⟩, fun a ha => ?_, by rw [el]; omega⟩
    · obtain ⟨h1, rfl⟩ := list_at f len i x hi
      exact (hf i h1).1 j u hu
    · obtain ⟨i, hi, rfl⟩ := List.mem_map.1 ha
      exact (hf i (List.mem_range.1 hi)).2.1
    · obtain ⟨i, hi, rfl⟩ := List.mem_map.1 ha
      exact (hf i (List.mem_range.1 hi)).2.2
set_option maxRecDepth 100000 in
/-- a list of flights by value, opened -/
theorem open_flights {H : Type} {enc : TypeId × Value → H} {W : World} {b0 : Nat} {v : Value} {d : DataW H} {p : List MemPlace} (hv : Value.okWide Tryz.prog W .any b0 40 v) (h : DataW.Trod enc Tryz.prog W 0 (fun _ => true) true 40 v d p) :
    ∃ (A : Option Addr) (c : Nat) (l : List FV), v = .slice A l.length c ∧ TblL W (.slice A l.length c) l ∧ (∀ f ∈ l, OkFl f) ∧ l.length < 9223372036854775808 := by
  obtain ⟨a, len, cap, rfl⟩ := okWide_slice Tryz.underlying40 hv
  obtain ⟨fuel, hf⟩ := h
  exact read_flights hf

/-! ### a question -/
structure AskV where
  car : ByteArray
  num : Int
  day : Int
  f : ByteArray
  t : ByteArray
abbrev encAsk (q : AskV) : Value := .agg #[.string q.car, .int .i64 q.num, .int .i64 q.day, .string q.f, .string q.t]
structure OkAsk (q : AskV) : Prop where
  car : q.car.size ≤ maxLen
  num : -9223372036854775808 ≤ q.num ∧ q.num ≤ 9223372036854775807
  day : -9223372036854775808 ≤ q.day ∧ q.day ≤ 9223372036854775807
theorem cells_ask : Tryz.prog.cellsOf 46 = 5 := by kernel_rfl
theorem array5 {α : Type} {cs : Array α} (h : cs.size = 5) : ∃ c0 c1 c2 c3 c4, cs = #[c0, c1, c2, c3, c4] := by
  obtain ⟨l⟩ := cs
  match l, h with
  | [c0, c1, c2, c3, c4], _ => exact ⟨c0, c1, c2, c3, c4, rfl⟩
set_option maxRecDepth 100000 in
theorem read_ask {H : Type} {enc : TypeId × Value → H} {W : World} {n : Nat} {c0 c1 c2 c3 c4 : Value} {y : DataW H × List MemPlace} (h : DataW.trod enc Tryz.prog W 0 (fun _ => true) true n 46 [c0, c1, c2, c3, c4] = some y) :
    ∃ q : AskV, (#[c0, c1, c2, c3, c4] : Array Value) = #[.string q.car, .int .i64 q.num, .int .i64 q.day, .string q.f, .string q.t] ∧ OkAsk q := by
  obtain ⟨xs, k, _, _, _, hxl, hf⟩ := DataW.trod_struct Tryz.underlying46 h
  obtain ⟨y0, y1, y2, y3, y4, rfl⟩ := len5 hxl
  all_goals
    have g0 := hf 0 _ rfl
    have g1 := hf 1 _ rfl
    have g2 := hf 2 _ rfl
    have g3 := hf 3 _ rfl
    have g4 := hf 4 _ rfl
    simp [cells_string, cells_int] at g0 g1 g2 g3 g4
    obtain ⟨s0, e0, _, z0⟩ := DataW.trod_string Tryz.underlying9 g0
    obtain ⟨x1, e1, _, w1⟩ := DataW.trod_int Tryz.underlying3 g1
    obtain ⟨x2, e2, _, w2⟩ := DataW.trod_int Tryz.underlying3 g2
    obtain ⟨s3, e3, _, z3⟩ := DataW.trod_string Tryz.underlying9 g3
    obtain ⟨s4, e4, _, z4⟩ := DataW.trod_string Tryz.underlying9 g4
    simp at e0 e1 e2 e3 e4
    subst e0 e1 e2 e3 e4
    exact ⟨⟨s0, x1, x2, s3, s4⟩, rfl, ⟨z0, int_bounds w1, int_bounds w2⟩⟩
set_option maxRecDepth 100000 in
/-- a question by value, opened -/
theorem open_ask {H : Type} {enc : TypeId × Value → H} {W : World} {b0 : Nat} {v : Value} {d : DataW H} {p : List MemPlace} (hv : Value.okWide Tryz.prog W .any b0 46 v) (h : DataW.Trod enc Tryz.prog W 0 (fun _ => true) true 46 v d p) :
    ∃ q : AskV, v = encAsk q ∧ OkAsk q := by
  obtain ⟨cs, rfl, hsz⟩ := okWide_struct Tryz.underlying46 hv
  obtain ⟨c0, c1, c2, c3, c4, rfl⟩ := array5 (hsz.trans cells_ask)
  obtain ⟨fuel, hf⟩ := h
  obtain ⟨q, e, h2⟩ := read_ask hf
  exact ⟨q, by rw [e], h2⟩

/-! ### two timetables -/
theorem cells_pair : Tryz.prog.cellsOf 68 = 2 := by kernel_rfl
set_option maxRecDepth 100000 in
theorem open_pairF {H : Type} {enc : TypeId × Value → H} {W : World} {b0 : Nat} {v : Value} {d : DataW H} {p : List MemPlace} (hv : Value.okWide Tryz.prog W .any b0 68 v) (h : DataW.Trod enc Tryz.prog W 0 (fun _ => true) true 68 v d p) :
    ∃ (A : Option Addr) (c : Nat) (l : List FV) (A' : Option Addr) (c' : Nat) (l' : List FV), v = .agg #[.slice A l.length c, .slice A' l'.length c'] ∧ TblL W (.slice A l.length c) l ∧ (∀ f ∈ l, OkFl f) ∧ l.length < 9223372036854775808 ∧ TblL W (.slice A' l'.length c') l' ∧ (∀ f ∈ l', OkFl f) ∧ l'.length < 9223372036854775808 := by
  obtain ⟨v0, v1, y0, y1, m, rfl, rfl, rfl, hy0, hy1⟩ := Joins.open_agg2 Tryz.underlying68 (by kernel_rfl) cells_pair hv h
  obtain ⟨A, c, l, rfl, h1, h2, h3⟩ := read_flights hy0
  obtain ⟨A', c', l', rfl, h4, h5, h6⟩ := read_flights hy1
  exact ⟨A, c, l, A', c', l', rfl, h1, h2, h3, h4, h5, h6⟩

end Go.Proofs.YtldillnjnjkkgaaGreatDoor
