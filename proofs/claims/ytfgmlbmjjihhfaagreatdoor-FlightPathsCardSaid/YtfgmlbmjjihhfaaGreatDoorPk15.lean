/- Words and walks that the laws below ask: FrameG, PthD, PthE, PthF, PthG. -/
import Derived.Test.YtfgmlbmjjihhfaaGreatDoorPk4
import Derived.Test.YtfgmlbmjjihhfaaGreatDoorPk12
import Derived.Test.YtfgmlbmjjihhfaaGreatDoorPk13
import Derived.Test.YtfgmlbmjjihhfaaGreatDoorPk14
/- A segment among the arguments, opened. -/
namespace Go.Proofs.YtfgmlbmjjihhfaaGreatDoor
open Go.ChangeShapes Go.WideShapes Go.ChangeAt Go.RowKit
set_option linter.unusedSimpArgs false
set_option linter.unusedVariables false

theorem cells_seg : Tryz.prog.cellsOf 47 = 7 := by kernel_rfl
structure OkSg (s : Sg) : Prop where
  day : -9223372036854775808 ≤ s.day ∧ s.day ≤ 9223372036854775807
theorem len7 {α : Type} : ∀ {l : List α}, l.length = 7 → ∃ a b c d e f g, l = [a, b, c, d, e, f, g]
  | [a, b, c, d, e, f, g], _ => ⟨a, b, c, d, e, f, g, rfl⟩
theorem array7 {α : Type} {cs : Array α} (h : cs.size = 7) : ∃ c0 c1 c2 c3 c4 c5 c6, cs = #[c0, c1, c2, c3, c4, c5, c6] := by
  obtain ⟨l⟩ := cs
  match l, h with
  | [c0, c1, c2, c3, c4, c5, c6], _ => exact ⟨c0, c1, c2, c3, c4, c5, c6, rfl⟩
set_option maxRecDepth 100000 in
theorem read_seg {H : Type} {enc : TypeId × Value → H} {W : World} {n : Nat} {c0 c1 c2 c3 c4 c5 c6 : Value} {y : DataW H × List MemPlace} (h : DataW.trod enc Tryz.prog W 0 (fun _ => true) true n 47 [c0, c1, c2, c3, c4, c5, c6] = some y) :
    ∃ sv : Sg, (#[c0, c1, c2, c3, c4, c5, c6] : Array Value) = #[.string sv.car, .int .i64 sv.num, .int .i64 sv.day, .string sv.f, .string sv.t, .int .i64 sv.dep, .int .i64 sv.arr] ∧ OkSg sv := by
  obtain ⟨xs, k, _, _, _, hxl, hf⟩ := DataW.trod_struct Tryz.underlying47 h
  obtain ⟨y0, y1, y2, y3, y4, y5, y6, rfl⟩ := len7 hxl
  all_goals
    have g0 := hf 0 _ rfl
    have g1 := hf 1 _ rfl
    have g2 := hf 2 _ rfl
    have g3 := hf 3 _ rfl
    have g4 := hf 4 _ rfl
    have g5 := hf 5 _ rfl
    have g6 := hf 6 _ rfl
    simp [cells_string, cells_int] at g0 g1 g2 g3 g4 g5 g6
    obtain ⟨s0, e0, _, z0⟩ := DataW.trod_string Tryz.underlying9 g0
    obtain ⟨x1, e1, _, w1⟩ := DataW.trod_int Tryz.underlying3 g1
    obtain ⟨x2, e2, _, w2⟩ := DataW.trod_int Tryz.underlying3 g2
    obtain ⟨s3, e3, _, z3⟩ := DataW.trod_string Tryz.underlying9 g3
    obtain ⟨s4, e4, _, z4⟩ := DataW.trod_string Tryz.underlying9 g4
    obtain ⟨x5, e5, _, w5⟩ := DataW.trod_int Tryz.underlying3 g5
    obtain ⟨x6, e6, _, w6⟩ := DataW.trod_int Tryz.underlying3 g6
    simp at e0 e1 e2 e3 e4 e5 e6
    subst e0 e1 e2 e3 e4 e5 e6
    exact ⟨⟨s0, x1, x2, s3, s4, x5, x6⟩, rfl, ⟨int_bounds w2⟩⟩
set_option maxRecDepth 100000 in
/-- a segment by value, opened -/
theorem open_seg {H : Type} {enc : TypeId × Value → H} {W : World} {b0 : Nat} {v : Value} {d : DataW H} {p : List MemPlace} (hv : Value.okWide Tryz.prog W .any b0 47 v) (h : DataW.Trod enc Tryz.prog W 0 (fun _ => true) true 47 v d p) :
    ∃ sv : Sg, v = encS7 sv ∧ OkSg sv := by
  obtain ⟨cs, rfl, hsz⟩ := okWide_struct Tryz.underlying47 hv
  obtain ⟨c0, c1, c2, c3, c4, c5, c6, rfl⟩ := array7 (hsz.trans cells_seg)
  obtain ⟨fuel, hf⟩ := h
  obtain ⟨sv, e, h2⟩ := read_seg hf
  exact ⟨sv, by rw [e], h2⟩

end Go.Proofs.YtfgmlbmjjihhfaaGreatDoor

/- Walks of the reference's Ids, SameIds and Path. -/
namespace Go.Proofs.YtfgmlbmjjihhfaaGreatDoor
open Go.RowKit Go.Shelf
set_option linter.unusedSimpArgs false
set_option linter.unusedVariables false

set_option maxRecDepth 100000 in
set_option maxHeartbeats 8000000 in
theorem rids_any (v0 : Value) (R : List Dt) (w : World) (hv : RowL 8 encDt w v0 R) (hn : R.length ≤ 1000) :
    Calls Tryz.prog 78 #[v0] w fun e w' => ∃ v, e = .returned v ∧ RowL 4 encI w' v (R.map idOf) ∧ Below w.heap.size w w' := by
  obtain ⟨A, c, rfl, hvc⟩ := id hv
  clear hvc
  have HV := Lib.hid hv
  clear hv
  have HN : Hid (ROwn iddT 4 encI w.heap.size w (.slice none 0 0) []) := Lib.hid (ROwn.nil (Nat.le_refl _))
  go_enter Tryz.func78, Tryz.ntmps78
  go_wp2
  go_loopg [3, 4] R.length (fun kx v3 vi wr => ∃ (v : Value) (k : Nat), v = v3 ∧ vi = .int .i64 k ∧ k + kx = R.length ∧ Hid (ROwn iddT 4 encI w.heap.size wr v ((R.take k).map idOf) ∧ SW w wr))
  case atStart => exact ⟨_, 0, rfl, rfl, by omega, Lib.hid ⟨HN.out, Below.refl _ _⟩⟩
  case round =>
    obtain ⟨v, k, rfl, rfl, hkx, HH⟩ := hrel
    clear HN
    have HKX := Lib.hid hkx
    have hSr : SW w wr := HH.out.2
    by_cases hlt : k < R.length
    · clear hkx
      obtain ⟨y, hy⟩ : ∃ y, R[k]? = some y := ⟨_, List.getElem?_eq_getElem hlt⟩
      obtain ⟨g2, o2, e1, hgl, hc⟩ := RowL.at8 (HV.out.more hSr) hy
      cases e1
      have j2 : (k : Int) < (R.length : Int) := by omega
      have hO := HH.out.1
      have HTk : Hid ((R.take (k + 1)).map idOf = (R.take k).map idOf ++ [(⟨y.car, y.num, y.day, y.f⟩ : Idd)]) := Lib.hid (by rw [List.take_add_one, hy, List.map_append]; rfl)
      have HLn2 : Hid (((R.take k).map idOf).length ≤ 100000000) := Lib.hid (by have := List.length_take_le k R; rw [List.length_map]; omega)
      have HG2 : Hid (g2 < w.heap.size) := Lib.hid (by
        obtain ⟨g3, o3, e3, hg3, _⟩ := RowL.at8 HV.out hy
        cases e3
        exact hg3)
      have hvg : v.ownBlock ≠ some g2 := fun h => by have h1 := (hO.low h).1; have h2 := HG2.out; omega
      have HV1 : Hid (∀ g, v.ownBlock = some g → w.heap.size ≤ g) := Lib.hid (fun g hg => (hO.low hg).1)
      have HSW : Hid (∀ W, SX wr v W → SW w W) := Lib.hid (fun W h => Below.trans hSr (h.below hSr.size (fun k' hk' hv => by have := HV1.out _ hv; omega)))
      have d0 := hc 0 _ rfl
      rw [Nat.add_zero] at d0
      have n0 : ∀ W, SX wr v W → W.cell? ⟨g2, o2 + k * 8, none⟩ = some (.string y.car) := fun W h => SX.cell d0 hvg h
      have n1 : ∀ W, SX wr v W → W.cell? ⟨g2, o2 + k * 8 + 1, none⟩ = some (.int .i64 y.num) := fun W h => SX.cell (hc 1 _ rfl) hvg h
      have n2 : ∀ W, SX wr v W → W.cell? ⟨g2, o2 + k * 8 + 2, none⟩ = some (.int .i64 y.day) := fun W h => SX.cell (hc 2 _ rfl) hvg h
      have n3 : ∀ W, SX wr v W → W.cell? ⟨g2, o2 + k * 8 + 3, none⟩ = some (.string y.f) := fun W h => SX.cell (hc 3 _ rfl) hvg h
      have hO := hO.more (Below.refl _ wr).drew
      clear hy HH hgl d0 hvg
      go_upto_region 5 with (fail)
      have hS : (SX wr v) _ := But.of_below (Below.refl _ _).drew
      refine wp_region_held_drew (S := SX wr v) (by kernel_rfl) hS (fun _ => ?_)
      refine wpAnyH_take (i := 0) (v := ?vL0) rfl (by kernel_rfl) (by kernel_rfl) (by kernel_rfl) (fun _ _ _ h => h) (Or.inl ⟨by rfl, ?hyL0⟩) hS ?restL0
      case hyL0 =>
        intro w hSw
        first | (go_simp; done) | (go_simp; with_reducible rfl)
      try simp only [Act.put, List.setIfInBounds_toArray, List.set_cons_zero, List.set_cons_succ]
      refine wpAnyH_take (i := 1) (v := ?vL1) rfl (by kernel_rfl) (by kernel_rfl) (by kernel_rfl) (fun _ _ _ h => h) (Or.inl ⟨by rfl, ?hyL1⟩) hS ?restL1
      case hyL1 =>
        intro w hSw
        first | (go_simp; done) | (go_simp; with_reducible rfl)
      try simp only [Act.put, List.setIfInBounds_toArray, List.set_cons_zero, List.set_cons_succ]
      refine wpAnyH_take (i := 2) (v := ?vL2) rfl (by kernel_rfl) (by kernel_rfl) (by kernel_rfl) (fun _ _ _ h => h) (Or.inl ⟨by rfl, ?hyL2⟩) hS ?restL2
      case hyL2 =>
        intro w hSw
        first | (go_simp; done) | (go_simp; with_reducible rfl)
      try simp only [Act.put, List.setIfInBounds_toArray, List.set_cons_zero, List.set_cons_succ]
      refine wpAnyH_take (i := 3) (v := ?vL3) rfl (by kernel_rfl) (by kernel_rfl) (by kernel_rfl) (fun _ _ _ h => h) (Or.inl ⟨by rfl, ?hyL3⟩) hS ?restL3
      case hyL3 =>
        intro w hSw
        first | (go_simp; done) | (go_simp; with_reducible rfl)
      try simp only [Act.put, List.setIfInBounds_toArray, List.set_cons_zero, List.set_cons_succ]
      refine wpAnyH_take (i := 4) (v := ?vL4) rfl (by kernel_rfl) (by kernel_rfl) (by kernel_rfl) (fun _ _ _ h => h) (Or.inl ⟨by rfl, ?hyL4⟩) hS ?restL4
      case hyL4 =>
        intro w hSw
        first | (go_simp; done) | (go_simp; with_reducible rfl)
      try simp only [Act.put, List.setIfInBounds_toArray, List.set_cons_zero, List.set_cons_succ]
      refine wpAnyH_take (i := 5) (v := ?vL5) rfl (by kernel_rfl) (by kernel_rfl) (by kernel_rfl) (fun _ _ _ h => h) (Or.inl ⟨by rfl, ?hyL5⟩) hS ?restL5
      case hyL5 =>
        intro w hSw
        have k0 := n0 w hSw
        first | (go_simp; done) | (go_simp; with_reducible rfl)
      try simp only [Act.put, List.setIfInBounds_toArray, List.set_cons_zero, List.set_cons_succ]
      refine wpAnyH_take (i := 6) (v := ?vL6) rfl (by kernel_rfl) (by kernel_rfl) (by kernel_rfl) (fun _ _ _ h => h) (Or.inl ⟨by rfl, ?hyL6⟩) hS ?restL6
      case hyL6 =>
        intro w hSw
        first | (go_simp; done) | (go_simp; with_reducible rfl)
      try simp only [Act.put, List.setIfInBounds_toArray, List.set_cons_zero, List.set_cons_succ]
      refine wpAnyH_take (i := 7) (v := ?vL7) rfl (by kernel_rfl) (by kernel_rfl) (by kernel_rfl) (fun _ _ _ h => h) (Or.inl ⟨by rfl, ?hyL7⟩) hS ?restL7
      case hyL7 =>
        intro w hSw
        first | (go_simp; done) | (go_simp; with_reducible rfl)
      try simp only [Act.put, List.setIfInBounds_toArray, List.set_cons_zero, List.set_cons_succ]
      refine wpAnyH_take (i := 8) (v := ?vL8) rfl (by kernel_rfl) (by kernel_rfl) (by kernel_rfl) (fun _ _ _ h => h) (Or.inl ⟨by rfl, ?hyL8⟩) hS ?restL8
      case hyL8 =>
        intro w hSw
        first | (go_simp; done) | (go_simp; with_reducible rfl)
      try simp only [Act.put, List.setIfInBounds_toArray, List.set_cons_zero, List.set_cons_succ]
      refine wpAnyH_take (i := 9) (v := ?vL9) rfl (by kernel_rfl) (by kernel_rfl) (by kernel_rfl) (fun _ _ _ h => h) (Or.inl ⟨by rfl, ?hyL9⟩) hS ?restL9
      case hyL9 =>
        intro w hSw
        first | (go_simp; done) | (go_simp; with_reducible rfl)
      try simp only [Act.put, List.setIfInBounds_toArray, List.set_cons_zero, List.set_cons_succ]
      refine wpAnyH_take (i := 10) (v := ?vL10) rfl (by kernel_rfl) (by kernel_rfl) (by kernel_rfl) (fun _ _ _ h => h) (Or.inl ⟨by rfl, ?hyL10⟩) hS ?restL10
      case hyL10 =>
        intro w hSw
        have k0 := n1 w hSw
        first | (go_simp; done) | (go_simp; with_reducible rfl)
      try simp only [Act.put, List.setIfInBounds_toArray, List.set_cons_zero, List.set_cons_succ]
      refine wpAnyH_take (i := 11) (v := ?vL11) rfl (by kernel_rfl) (by kernel_rfl) (by kernel_rfl) (fun _ _ _ h => h) (Or.inl ⟨by rfl, ?hyL11⟩) hS ?restL11
      case hyL11 =>
        intro w hSw
        first | (go_simp; done) | (go_simp; with_reducible rfl)
      try simp only [Act.put, List.setIfInBounds_toArray, List.set_cons_zero, List.set_cons_succ]
      refine wpAnyH_take (i := 12) (v := ?vL12) rfl (by kernel_rfl) (by kernel_rfl) (by kernel_rfl) (fun _ _ _ h => h) (Or.inl ⟨by rfl, ?hyL12⟩) hS ?restL12
      case hyL12 =>
        intro w hSw
        first | (go_simp; done) | (go_simp; with_reducible rfl)
      try simp only [Act.put, List.setIfInBounds_toArray, List.set_cons_zero, List.set_cons_succ]
      refine wpAnyH_take (i := 13) (v := ?vL13) rfl (by kernel_rfl) (by kernel_rfl) (by kernel_rfl) (fun _ _ _ h => h) (Or.inl ⟨by rfl, ?hyL13⟩) hS ?restL13
      case hyL13 =>
        intro w hSw
        first | (go_simp; done) | (go_simp; with_reducible rfl)
      try simp only [Act.put, List.setIfInBounds_toArray, List.set_cons_zero, List.set_cons_succ]
      refine wpAnyH_take (i := 14) (v := ?vL14) rfl (by kernel_rfl) (by kernel_rfl) (by kernel_rfl) (fun _ _ _ h => h) (Or.inl ⟨by rfl, ?hyL14⟩) hS ?restL14
      case hyL14 =>
        intro w hSw
        first | (go_simp; done) | (go_simp; with_reducible rfl)
      try simp only [Act.put, List.setIfInBounds_toArray, List.set_cons_zero, List.set_cons_succ]
      refine wpAnyH_take (i := 15) (v := ?vL15) rfl (by kernel_rfl) (by kernel_rfl) (by kernel_rfl) (fun _ _ _ h => h) (Or.inl ⟨by rfl, ?hyL15⟩) hS ?restL15
      case hyL15 =>
        intro w hSw
        have k0 := n2 w hSw
        first | (go_simp; done) | (go_simp; with_reducible rfl)
      try simp only [Act.put, List.setIfInBounds_toArray, List.set_cons_zero, List.set_cons_succ]
      refine wpAnyH_take (i := 16) (v := ?vL16) rfl (by kernel_rfl) (by kernel_rfl) (by kernel_rfl) (fun _ _ _ h => h) (Or.inl ⟨by rfl, ?hyL16⟩) hS ?restL16
      case hyL16 =>
        intro w hSw
        first | (go_simp; done) | (go_simp; with_reducible rfl)
      try simp only [Act.put, List.setIfInBounds_toArray, List.set_cons_zero, List.set_cons_succ]
      refine wpAnyH_take (i := 17) (v := ?vL17) rfl (by kernel_rfl) (by kernel_rfl) (by kernel_rfl) (fun _ _ _ h => h) (Or.inl ⟨by rfl, ?hyL17⟩) hS ?restL17
      case hyL17 =>
        intro w hSw
        first | (go_simp; done) | (go_simp; with_reducible rfl)
      try simp only [Act.put, List.setIfInBounds_toArray, List.set_cons_zero, List.set_cons_succ]
      refine wpAnyH_take (i := 18) (v := ?vL18) rfl (by kernel_rfl) (by kernel_rfl) (by kernel_rfl) (fun _ _ _ h => h) (Or.inl ⟨by rfl, ?hyL18⟩) hS ?restL18
      case hyL18 =>
        intro w hSw
        first | (go_simp; done) | (go_simp; with_reducible rfl)
      try simp only [Act.put, List.setIfInBounds_toArray, List.set_cons_zero, List.set_cons_succ]
      refine wpAnyH_take (i := 19) (v := ?vL19) rfl (by kernel_rfl) (by kernel_rfl) (by kernel_rfl) (fun _ _ _ h => h) (Or.inl ⟨by rfl, ?hyL19⟩) hS ?restL19
      case hyL19 =>
        intro w hSw
        first | (go_simp; done) | (go_simp; with_reducible rfl)
      try simp only [Act.put, List.setIfInBounds_toArray, List.set_cons_zero, List.set_cons_succ]
      refine wpAnyH_take (i := 20) (v := ?vL20) rfl (by kernel_rfl) (by kernel_rfl) (by kernel_rfl) (fun _ _ _ h => h) (Or.inl ⟨by rfl, ?hyL20⟩) hS ?restL20
      case hyL20 =>
        intro w hSw
        have k0 := n3 w hSw
        first | (go_simp; done) | (go_simp; with_reducible rfl)
      try simp only [Act.put, List.setIfInBounds_toArray, List.set_cons_zero, List.set_cons_succ]
      refine wpAnyH_take (i := 21) (v := ?vL21) rfl (by kernel_rfl) (by kernel_rfl) (by kernel_rfl) (fun _ _ _ h => h) (Or.inl ⟨by rfl, ?hyL21⟩) hS ?restL21
      case hyL21 =>
        intro w hSw
        first | (go_simp; done) | (go_simp; with_reducible rfl)
      try simp only [Act.put, List.setIfInBounds_toArray, List.set_cons_zero, List.set_cons_succ]
      refine wpAnyH_ready (rs := [22]) (by kernel_rfl) (by simp) ?_
      refine AllReadyH.cons rfl (fun K hK => ?_) AllReadyH.nil
      go_simp
      have hSp := hS
      have hS := hS.on (bel_alloc _ (.cells #[.string y.car, .int .i64 y.num, .int .i64 y.day, .string y.f] iddT))
      refine hK.out _ _ hS (fun _ => ?_)
      clear hK K
      refine wpAnyH_ready (rs := [23]) (by kernel_rfl) (by simp) ?_
      refine AllReadyH.cons rfl (fun K hK => ?_) AllReadyH.nil
      refine step_rapp rtI rfl _ _ rfl hO rfl (bel_alloc _ _) _ (⟨y.car, y.num, y.day, y.f⟩ : Idd) _ rfl (cs := #[.string y.car, .int .i64 y.num, .int .i64 y.day, .string y.f]) rfl (heap_alloc_new _ _) HLn2.out ?_
      intro v8 w8 hO8 hC8
      go_simp
      have hS := hSp.trans hC8.but (fun _ _ h => h)
      refine hK.out _ _ hS (fun _ => ?_)
      clear hK K
      refine wpAnyH_take (i := 24) (v := ?vL24) rfl (by kernel_rfl) (by kernel_rfl) (by kernel_rfl) (fun _ _ _ h => h) (Or.inl ⟨by rfl, ?hyL24⟩) hS ?restL24
      case hyL24 =>
        intro w hSw
        first | (go_simp; done) | (go_simp; with_reducible rfl)
      try simp only [Act.put, List.setIfInBounds_toArray, List.set_cons_zero, List.set_cons_succ]
      refine wpAnyH_done (by kernel_rfl) ?_ _
      simp only [List.getElem_toArray, List.getElem_cons_succ, List.getElem_cons_zero, List.set_cons_zero, List.set_cons_succ]
      have HY : Hid (ROwn iddT 4 encI w.heap.size w8 v8 ((R.take (k + 1)).map idOf) ∧ SW w w8) := Lib.hid ⟨by rw [HTk.out]; exact hO8, HSW.out _ hS⟩
      clear hO8 hC8 hS hSp hO
      go_wp2
      go_roundg (R.length - (k + 1))
      case measure => have := HKX.out; omega
      case rel => exact ⟨_, k + 1, rfl, by go_num, by omega, HY⟩
    · have hk : k = R.length := by omega
      have HZ : Hid (RowL 4 encI wr v (R.map idOf) ∧ Below w.heap.size w wr) := Lib.hid ⟨by
        have h := HH.out.1.rowL rtI.len
        rw [hk, List.take_length] at h
        exact h, hSr⟩
      have j2 : ¬ (k : Int) < (R.length : Int) := by omega
      clear HH hkx hk
      go_wp2
      go_ret
      exact ⟨v, rfl, HZ.out⟩

set_option maxRecDepth 100000 in
set_option maxHeartbeats 8000000 in
theorem sameIds_any (u v : Value) (I : List Idd) (w : World) (hu : RowL 4 encI w u I) (hv : RowL 4 encI w v I) (hn : I.length ≤ 1000) :
    Calls Tryz.prog 26 #[u, v] w fun e w' => e = .returned (.bool true) ∧ Below w.heap.size w w' := by
  obtain ⟨A, c, rfl, hu1⟩ := id hu
  obtain ⟨A', c', rfl, hv1⟩ := id hv
  clear hu1 hv1
  have HU := Lib.hid hu
  have HV := Lib.hid hv
  have hne : ((I.length : Int) != (I.length : Int)) = false := by simp
  clear hu hv
  go_enter Tryz.func26, Tryz.ntmps26
  go_wp2
  go_loopw [5] (fun vi wr => ∃ k : Nat, k ≤ I.length ∧ vi = .int .i64 k ∧ SW w wr) (fun vi _ => I.length - (intOf vi).toNat)
  case atStart => exact ⟨0, Nat.zero_le _, rfl, Below.refl _ _⟩
  case round =>
    obtain ⟨k, hk, rfl, hSr⟩ := hrel
    by_cases hlt : k < I.length
    · obtain ⟨y, hy⟩ : ∃ y, I[k]? = some y := ⟨_, List.getElem?_eq_getElem hlt⟩
      obtain ⟨b, o, e1, _, hc⟩ := RowL.at4 (HU.out.more hSr) hy
      cases e1
      obtain ⟨b', o', e1, _, hc'⟩ := RowL.at4 (HV.out.more hSr) hy
      cases e1
      have i2 : (k : Int) < (I.length : Int) := by omega
      have g0 := hc 0 _ rfl
      have m0 := hc' 0 _ rfl
      rw [Nat.add_zero] at g0 m0
      have g0 := SW.cell g0
      have m0 := SW.cell m0
      have g1 := SW.cell (hc 1 _ rfl)
      have m1 := SW.cell (hc' 1 _ rfl)
      have g2 := SW.cell (hc 2 _ rfl)
      have m2 := SW.cell (hc' 2 _ rfl)
      have g3 := SW.cell (hc 3 _ rfl)
      have m3 := SW.cell (hc' 3 _ rfl)
      clear hc hc' hy
      go_wp2
      have hNe : Nonempty (Wd (SW wr)) := ⟨⟨_, SW.drew _⟩⟩
      refine quietS (S := SW wr) (by kernel_rfl) (by kernel_rfl) (SW.drew _) ?_
      repeat (first | go_big_quiet_skip | (go_big_quiet_want; go_big_quiet_op; first | go_big_quiet_on | go_big_quiet_call ((fail))))
      refine wpQuiet_nil ?_
      rintro W ⟨⟨_, hW⟩, rfl⟩
      go_wp2
      go_roundw
      case rel => exact ⟨k + 1, by omega, by go_num, Below.trans hSr (Below.mono hW hSr.size)⟩
      case measure => simp [intOf]; omega
    · have i2 : ¬ (k : Int) < (I.length : Int) := by omega
      go_wp2
      go_ret
      exact ⟨rfl, hSr⟩

end Go.Proofs.YtfgmlbmjjihhfaaGreatDoor

/- Walk of the reference's Path. -/
namespace Go.Proofs.YtfgmlbmjjihhfaaGreatDoor
open Go.RowKit Go.Shelf
set_option linter.unusedSimpArgs false
set_option linter.unusedVariables false

def Hits (L : List Dt) (fr tt : ByteArray) (i k : Nat) : Prop := ∃ a b : Dt, L[i]? = some a ∧ L[k]? = some b ∧ (a.f.toList == fr.toList) = true ∧ (b.t.toList == tt.toList) = true
/-- what the reference finds in the legs L -/
def RFind (L : List Dt) (s : Sg) (e : Int) (I : List Idd) : Prop :=
  (e = 14 ∧ I = [] ∧ ∀ i k : Nat, i ≤ k → ¬ Hits L s.f s.t i k)
  ∨ ∃ (i k : Nat) (a b : Dt), i ≤ k ∧ L[i]? = some a ∧ L[k]? = some b ∧ (a.f.toList == s.f.toList) = true ∧ (b.t.toList == s.t.toList) = true ∧
      (((s.dep ≠ a.dep ∨ s.arr ≠ b.arr) ∧ e = 13 ∧ I = []) ∨ (s.dep = a.dep ∧ s.arr = b.arr ∧ e = 0 ∧ I = ((L.drop i).take (k - i + 1)).map idOf))
def RPathR (l : List Air) (f : FV) (s : Sg) (e : Int) (I : List Idd) : Prop :=
  (((s.car.toList == f.car.toList) = false ∨ s.num ≠ f.num) ∧ e = 7 ∧ I = [])
  ∨ ((s.car.toList == f.car.toList) = true ∧ s.num = f.num ∧ legE f s.day ≠ 0 ∧ e = legE f s.day ∧ I = [])
  ∨ ((s.car.toList == f.car.toList) = true ∧ s.num = f.num ∧ legE f s.day = 0 ∧ RFind (legF l f s.day) s e I)
theorem nohit_f {L : List Dt} {fr tt : ByteArray} {i k : Nat} {a : Dt} (ha : L[i]? = some a) (h : (a.f.toList == fr.toList) = false) : ¬ Hits L fr tt i k := by
  rintro ⟨a', b, h1, _, h2, _⟩
  rw [ha] at h1
  cases h1
  rw [h] at h2
  cases h2
theorem nohit_t {L : List Dt} {fr tt : ByteArray} {i k : Nat} {b : Dt} (hb : L[k]? = some b) (h : (b.t.toList == tt.toList) = false) : ¬ Hits L fr tt i k := by
  rintro ⟨a, b', _, h1, _, h2⟩
  rw [hb] at h1
  cases h1
  rw [h] at h2
  cases h2
theorem nohit_end {L : List Dt} {fr tt : ByteArray} {i k : Nat} (h : L.length ≤ k) : ¬ Hits L fr tt i k := by
  rintro ⟨a, b, _, h1, _⟩
  have := (List.getElem?_eq_some_iff.1 h1).1
  omega

set_option maxRecDepth 100000 in
set_option maxHeartbeats 8000000 in
theorem rpath_any (p : PV) (f : FV) (s : Sg) (w : World) (hl : p.l.length ≤ 40) (hL : AirL w p.A p.l) (hz : ∀ a ∈ p.l, OkZ a.off a.shs) (hG : LegL w (.slice f.A f.lg.length f.c) f.lg) (hn : f.lg.length ≤ 100)
    (hm : ∀ x ∈ f.lg, (-1000000 ≤ x.dep ∧ x.dep ≤ 1000000) ∧ -1000000 ≤ x.arr ∧ x.arr ≤ 1000000) (hd1 : -9223372036854775808 ≤ s.day) (hd2 : s.day ≤ 9223372036854775807) :
    Calls Tryz.prog 25 #[encP p, encFl f, encS7 s] w fun e w' => PathPost (RPathR p.l f s) w w' e := by
  have hb1 := bel_alloc w (.cells #[.slice p.A p.l.length p.ca, .slice p.D p.ds.length p.cd] placesT)
  have hb2 := bel_alloc (w.alloc (.cells #[.slice p.A p.l.length p.ca, .slice p.D p.ds.length p.cd] placesT)) (.cells #[.string f.car, .int .i64 f.num, .int .i64 f.pf, .int .i64 f.pt, .int .i64 f.pd, .slice f.A f.lg.length f.c] fliT)
  have hb3 := bel_alloc ((w.alloc (.cells #[.slice p.A p.l.length p.ca, .slice p.D p.ds.length p.cd] placesT)).alloc (.cells #[.string f.car, .int .i64 f.num, .int .i64 f.pf, .int .i64 f.pt, .int .i64 f.pd, .slice f.A f.lg.length f.c] fliT)) (.cells #[.string s.car, .int .i64 s.num, .int .i64 s.day, .string s.f, .string s.t, .int .i64 s.dep, .int .i64 s.arr] segT)
  have hb0 : Below w.heap.size w (((w.alloc (.cells #[.slice p.A p.l.length p.ca, .slice p.D p.ds.length p.cd] placesT)).alloc (.cells #[.string f.car, .int .i64 f.num, .int .i64 f.pf, .int .i64 f.pt, .int .i64 f.pd, .slice f.A f.lg.length f.c] fliT)).alloc (.cells #[.string s.car, .int .i64 s.num, .int .i64 s.day, .string s.f, .string s.t, .int .i64 s.dep, .int .i64 s.arr] segT)) := hb1.trans ((hb2.mono hb1.size).trans (hb3.mono (Nat.le_trans hb1.size hb2.size)))
  have p0 := bel_cell hb3 (bel_cell hb2 ((cells_new w #[.slice p.A p.l.length p.ca, .slice p.D p.ds.length p.cd] placesT 0).trans (show _ = some (Value.slice p.A p.l.length p.ca) from rfl)))
  have p1 := bel_cell hb3 (bel_cell hb2 ((cells_new w #[.slice p.A p.l.length p.ca, .slice p.D p.ds.length p.cd] placesT 1).trans (show _ = some (Value.slice p.D p.ds.length p.cd) from rfl)))
  have q0 := bel_cell hb3 ((cells_new (w.alloc (.cells #[.slice p.A p.l.length p.ca, .slice p.D p.ds.length p.cd] placesT)) #[.string f.car, .int .i64 f.num, .int .i64 f.pf, .int .i64 f.pt, .int .i64 f.pd, .slice f.A f.lg.length f.c] fliT 0).trans (show _ = some (Value.string f.car) from rfl))
  have q1 := bel_cell hb3 ((cells_new (w.alloc (.cells #[.slice p.A p.l.length p.ca, .slice p.D p.ds.length p.cd] placesT)) #[.string f.car, .int .i64 f.num, .int .i64 f.pf, .int .i64 f.pt, .int .i64 f.pd, .slice f.A f.lg.length f.c] fliT 1).trans (show _ = some (Value.int .i64 f.num) from rfl))
  have q2 := bel_cell hb3 ((cells_new (w.alloc (.cells #[.slice p.A p.l.length p.ca, .slice p.D p.ds.length p.cd] placesT)) #[.string f.car, .int .i64 f.num, .int .i64 f.pf, .int .i64 f.pt, .int .i64 f.pd, .slice f.A f.lg.length f.c] fliT 2).trans (show _ = some (Value.int .i64 f.pf) from rfl))
  have q3 := bel_cell hb3 ((cells_new (w.alloc (.cells #[.slice p.A p.l.length p.ca, .slice p.D p.ds.length p.cd] placesT)) #[.string f.car, .int .i64 f.num, .int .i64 f.pf, .int .i64 f.pt, .int .i64 f.pd, .slice f.A f.lg.length f.c] fliT 3).trans (show _ = some (Value.int .i64 f.pt) from rfl))
  have q4 := bel_cell hb3 ((cells_new (w.alloc (.cells #[.slice p.A p.l.length p.ca, .slice p.D p.ds.length p.cd] placesT)) #[.string f.car, .int .i64 f.num, .int .i64 f.pf, .int .i64 f.pt, .int .i64 f.pd, .slice f.A f.lg.length f.c] fliT 4).trans (show _ = some (Value.int .i64 f.pd) from rfl))
  have q5 := bel_cell hb3 ((cells_new (w.alloc (.cells #[.slice p.A p.l.length p.ca, .slice p.D p.ds.length p.cd] placesT)) #[.string f.car, .int .i64 f.num, .int .i64 f.pf, .int .i64 f.pt, .int .i64 f.pd, .slice f.A f.lg.length f.c] fliT 5).trans (show _ = some (Value.slice f.A f.lg.length f.c) from rfl))
  have s0 := (cells_new ((w.alloc (.cells #[.slice p.A p.l.length p.ca, .slice p.D p.ds.length p.cd] placesT)).alloc (.cells #[.string f.car, .int .i64 f.num, .int .i64 f.pf, .int .i64 f.pt, .int .i64 f.pd, .slice f.A f.lg.length f.c] fliT)) #[.string s.car, .int .i64 s.num, .int .i64 s.day, .string s.f, .string s.t, .int .i64 s.dep, .int .i64 s.arr] segT 0).trans (show _ = some (Value.string s.car) from rfl)
  have s1 := (cells_new ((w.alloc (.cells #[.slice p.A p.l.length p.ca, .slice p.D p.ds.length p.cd] placesT)).alloc (.cells #[.string f.car, .int .i64 f.num, .int .i64 f.pf, .int .i64 f.pt, .int .i64 f.pd, .slice f.A f.lg.length f.c] fliT)) #[.string s.car, .int .i64 s.num, .int .i64 s.day, .string s.f, .string s.t, .int .i64 s.dep, .int .i64 s.arr] segT 1).trans (show _ = some (Value.int .i64 s.num) from rfl)
  have s2 := (cells_new ((w.alloc (.cells #[.slice p.A p.l.length p.ca, .slice p.D p.ds.length p.cd] placesT)).alloc (.cells #[.string f.car, .int .i64 f.num, .int .i64 f.pf, .int .i64 f.pt, .int .i64 f.pd, .slice f.A f.lg.length f.c] fliT)) #[.string s.car, .int .i64 s.num, .int .i64 s.day, .string s.f, .string s.t, .int .i64 s.dep, .int .i64 s.arr] segT 2).trans (show _ = some (Value.int .i64 s.day) from rfl)
  have s3 := (cells_new ((w.alloc (.cells #[.slice p.A p.l.length p.ca, .slice p.D p.ds.length p.cd] placesT)).alloc (.cells #[.string f.car, .int .i64 f.num, .int .i64 f.pf, .int .i64 f.pt, .int .i64 f.pd, .slice f.A f.lg.length f.c] fliT)) #[.string s.car, .int .i64 s.num, .int .i64 s.day, .string s.f, .string s.t, .int .i64 s.dep, .int .i64 s.arr] segT 3).trans (show _ = some (Value.string s.f) from rfl)
  have s4 := (cells_new ((w.alloc (.cells #[.slice p.A p.l.length p.ca, .slice p.D p.ds.length p.cd] placesT)).alloc (.cells #[.string f.car, .int .i64 f.num, .int .i64 f.pf, .int .i64 f.pt, .int .i64 f.pd, .slice f.A f.lg.length f.c] fliT)) #[.string s.car, .int .i64 s.num, .int .i64 s.day, .string s.f, .string s.t, .int .i64 s.dep, .int .i64 s.arr] segT 4).trans (show _ = some (Value.string s.t) from rfl)
  have s5 := (cells_new ((w.alloc (.cells #[.slice p.A p.l.length p.ca, .slice p.D p.ds.length p.cd] placesT)).alloc (.cells #[.string f.car, .int .i64 f.num, .int .i64 f.pf, .int .i64 f.pt, .int .i64 f.pd, .slice f.A f.lg.length f.c] fliT)) #[.string s.car, .int .i64 s.num, .int .i64 s.day, .string s.f, .string s.t, .int .i64 s.dep, .int .i64 s.arr] segT 5).trans (show _ = some (Value.int .i64 s.dep) from rfl)
  have s6 := (cells_new ((w.alloc (.cells #[.slice p.A p.l.length p.ca, .slice p.D p.ds.length p.cd] placesT)).alloc (.cells #[.string f.car, .int .i64 f.num, .int .i64 f.pf, .int .i64 f.pt, .int .i64 f.pd, .slice f.A f.lg.length f.c] fliT)) #[.string s.car, .int .i64 s.num, .int .i64 s.day, .string s.f, .string s.t, .int .i64 s.dep, .int .i64 s.arr] segT 6).trans (show _ = some (Value.int .i64 s.arr) from rfl)
  rw [World.size_alloc] at q0 q1 q2 q3 q4 q5
  rw [World.size_alloc, World.size_alloc] at s0 s1 s2 s3 s4 s5 s6
  have KL := Lib.hid (fun W hA hB => rlegsT_any p f s.day W hl hA hz hB hn hm hd1 hd2)
  have HL := Lib.hid (hL.more hb0)
  have HG := Lib.hid (hG.more hb0)
  have HP7 : Hid ((s.car.toList == f.car.toList) = false ∨ s.num ≠ f.num → RPathR p.l f s 7 []) := Lib.hid (fun h => .inl ⟨h, rfl, rfl⟩)
  have HPE : Hid ((s.car.toList == f.car.toList) = true → s.num = f.num → legE f s.day ≠ 0 → RPathR p.l f s (legE f s.day) []) := Lib.hid (fun h1 h2 h3 => .inr (.inl ⟨h1, h2, h3, rfl, rfl⟩))
  have HPC : Hid ((s.car.toList == f.car.toList) = true → s.num = f.num → legE f s.day = 0 → ∀ er I, RFind (legF p.l f s.day) s er I → RPathR p.l f s er I) := Lib.hid (fun h1 h2 h3 er I h => .inr (.inr ⟨h1, h2, h3, h⟩))
  have HLn : Hid ((legF p.l f s.day).length ≤ 100) := Lib.hid (by unfold legF; split <;> simp <;> omega)
  have HLE : Hid (∀ y ∈ legF p.l f s.day, y.car = f.car ∧ y.num = f.num ∧ y.day = s.day) := Lib.hid (by
    unfold legF
    split
    · intro y hy
      obtain ⟨x, _, rfl⟩ := List.mem_map.1 hy
      exact ⟨rfl, rfl, rfl⟩
    · intro y hy; cases hy)
  generalize hLF : legF p.l f s.day = L at *
  generalize legE f s.day = e0 at *
  generalize RPathR p.l f s = PR at *
  clear hL hz hG hm hd1 hd2 hLF
  go_enter Tryz.func25, Tryz.ntmps25
  go_upto_region 1 with (fail)
  generalize hw5 : ((w.alloc (.cells #[.slice p.A p.l.length p.ca, .slice p.D p.ds.length p.cd] placesT)).alloc (.cells #[.string f.car, .int .i64 f.num, .int .i64 f.pf, .int .i64 f.pt, .int .i64 f.pd, .slice f.A f.lg.length f.c] fliT)).alloc (.cells #[.string s.car, .int .i64 s.num, .int .i64 s.day, .string s.f, .string s.t, .int .i64 s.dep, .int .i64 s.arr] segT) = w5 at *
  clear hw5 hb1 hb2 hb3
  have f0 := bel_get q0
  have f1 := bel_get q1
  have f2 := bel_get q2
  have f3 := bel_get q3
  have f4 := bel_get q4
  have f5 := bel_get q5
  have u0 := bel_get s0
  have u1 := bel_get s1
  have u2 := bel_get s2
  have u3 := bel_get s3
  have u4 := bel_get s4
  have u5 := bel_get s5
  have u6 := bel_get s6
  have y0 := bel_get p0
  have y1 := bel_get p1
  clear p0 p1 q0 q1 q2 q3 q4 q5 s0 s1 s2 s3 s4 s5 s6
  have hS : SW w5 w5 := Below.refl _ _
  have r0 := f0 _ hS
  have r1 := f1 _ hS
  have m0 := u0 _ hS
  have m1 := u1 _ hS
  have m2 := u2 _ hS
  cases hc1 : (s.car.toList == f.car.toList) with
  | false =>
    have HR := Lib.hid (HP7.out (Or.inl hc1))
    go_wp2
    exact bodyPost_ret (results_tmp2 rfl _ _ _) rfl (PathPost.mk _ 7 [] rfl ⟨none, 0, rfl, .inl rfl⟩ HR (hb0))
  | true =>
  cases hc2 : (s.num != f.num) with
  | true =>
    have HR := Lib.hid (HP7.out (Or.inr (by simpa using hc2)))
    go_wp2
    exact bodyPost_ret (results_tmp2 rfl _ _ _) rfl (PathPost.mk _ 7 [] rfl ⟨none, 0, rfl, .inl rfl⟩ HR (hb0))
  | false =>
  have hnum : s.num = f.num := by simpa using hc2
  have HPE2 := Lib.hid (HPE.out hc1 hnum)
  have HPC2 := Lib.hid (HPC.out hc1 hnum)
  have HCAR : Hid ((f.car.toList == s.car.toList) = true ∧ (f.num == s.num) = true ∧ (s.day == s.day) = true) := Lib.hid ⟨by rw [beq_iff_eq] at hc1 ⊢; exact hc1.symm, by rw [beq_iff_eq]; exact hnum.symm, by simp⟩
  clear hnum HPE HPC HP7
  have k0 := f0 _ hS
  have k1 := f1 _ hS
  have k2 := f2 _ hS
  have k3 := f3 _ hS
  have k4 := f4 _ hS
  have k5 := f5 _ hS
  have z0 := y0 _ hS
  have z1 := y1 _ hS
  have KL2 := Lib.hid (KL.out w5 HL.out HG.out)
  by_cases he : e0 = 0
  case neg =>
    have heb : (e0 != 0) = true := by simpa using he
    have HR := Lib.hid (HPE2.out he)
    clear he
    go_wp2_with (go_at_call 21; refine KL2.out.mono ?_; rintro e w1 ⟨v1, rfl, hO1, hbl⟩)
    exact bodyPost_ret (results_tmp2 rfl _ _ _) rfl (PathPost.mk _ e0 [] rfl ⟨none, 0, rfl, .inl rfl⟩ HR (hb0.trans (Below.mono hbl hb0.size)))
  case pos =>
  subst he
  have HPC3 := Lib.hid (HPC2.out rfl)
  clear HPE2 HPC2
  go_upto_region 7 with (go_at_call 21; refine KL2.out.mono ?_; rintro e w1 ⟨v1, rfl, hO1, hbl⟩; obtain ⟨A1, c1, rfl, hvc⟩ := id (hO1.rowL rtD.len))
  have hS1 : SW w5 w1 := hbl
  have HCP := Lib.hid hO1.cap
  have HV := Lib.hid (hO1.rowL rtD.len)
  have HU := Lib.hid (And.intro u0 (And.intro u1 (And.intro u2 (And.intro u3 (And.intro u4 (And.intro u5 u6))))))
  clear u0 u1 u2 u3 u4 u5 u6
  clear hO1 hvc hbl z0 z1 k0 k1 k2 k3 k4 k5 m0 m1 m2 r0 r1 y0 y1 f0 f1 f2 f3 f4 f5 KL KL2 HL HG hc1 hc2 hS
  go_loopg [10] L.length (fun kx vi wr => ∃ i : Nat, vi = .int .i64 i ∧ i + kx = L.length ∧ Hid (∀ j k : Nat, j < i → j ≤ k → ¬ Hits L s.f s.t j k) ∧ SW w1 wr)
  case atStart => exact ⟨0, rfl, by omega, Lib.hid (fun j k h => absurd h (by omega)), Below.refl _ _⟩
  case round =>
    obtain ⟨i, rfl, hix, HN, hSr⟩ := hrel
    have HIX := Lib.hid hix
    by_cases hlt : i < L.length
    · clear hix
      have i2 : (i : Int) < (L.length : Int) := by omega
      have ib : i ≤ 100 := by have := HLn.out; omega
      obtain ⟨a, ha⟩ : ∃ a, L[i]? = some a := ⟨_, List.getElem?_eq_getElem hlt⟩
      have HA := Lib.hid ha
      have HNX : Hid (i + 1 + (L.length - (i + 1)) = L.length ∧ i < L.length) := Lib.hid (by omega)
      have hi0 : i + (L.length - i) = L.length := by omega
      have HK0 : Hid (∀ k : Nat, i ≤ k → k < i → ¬ Hits L s.f s.t i k) := Lib.hid (fun k h1 h2 => absurd h1 (by omega))
      clear ha hlt
      go_wp2
      go_loopg [11] (L.length - i) (fun kx vk wr => ∃ k : Nat, vk = .int .i64 k ∧ k + kx = L.length ∧ i ≤ k ∧ Hid (∀ k' : Nat, i ≤ k' → k' < k → ¬ Hits L s.f s.t i k') ∧ SW w1 wr)
      case atStart => exact ⟨i, rfl, hi0, Nat.le_refl _, HK0, hSr⟩
      case round =>
        obtain ⟨k, rfl, hkx, hik, HK, hSq⟩ := hrel
        clear hi0 HK0
        have HKX := Lib.hid hkx
        have HIK := Lib.hid hik
        by_cases hlk : k < L.length
        · clear hkx
          obtain ⟨y, hy⟩ : ∃ y, L[k]? = some y := ⟨_, List.getElem?_eq_getElem hlk⟩
          obtain ⟨g, o, e1, hgl, hca⟩ := RowL.at8 (HV.out.more hSq) HA.out
          cases e1
          obtain ⟨g', o', e1, hgl', hcy⟩ := RowL.at8 (HV.out.more hSq) hy
          cases e1
          have j2 : (k : Int) < (L.length : Int) := by omega
          have kb : k ≤ 100 := by have := HLn.out; omega
          have HKN : Hid (k + 1 + (L.length - (k + 1)) = L.length ∧ i ≤ k + 1 ∧ L.length - (k + 1) < L.length - k) := Lib.hid (by omega)
          have a3 := SW.cell (hca 3 _ rfl)
          have y4 := SW.cell (hcy 4 _ rfl)
          have hSA : SW w5 wr := Below.trans hS1 (Below.mono hSq hS1.size)
          have t3 := SW.cell (HU.out.2.2.2.1 _ hSA)
          have t4 := SW.cell (HU.out.2.2.2.2.1 _ hSA)
          have HKS : Hid (∀ W, SW wr W → Calls Tryz.prog 76 #[.slice (some ⟨g, o, none⟩) L.length c1, .int .i64 (i : Int), .int .i64 (k : Int)] W fun e w' => e = .returned (.agg #[.string a.car, .int .i64 a.num, .int .i64 a.day, .string a.f, .string y.t, .int .i64 a.dep, .int .i64 y.arr]) ∧ Below W.heap.size W w') := Lib.hid (fun W h => rseg_any (some ⟨g, o, none⟩) c1 L i k a y W (by have := HLn.out; omega) (HV.out.more (Below.trans hSq (Below.mono h hSq.size))) HA.out hy)
          have HY := Lib.hid hy
          clear hca hcy hy hik hlk hgl hgl'
          cases h1 : (a.f.toList == s.f.toList) with
          | false =>
            have HK2 : Hid (∀ k' : Nat, i ≤ k' → k' < k + 1 → ¬ Hits L s.f s.t i k') := Lib.hid (fun k' _ _ => nohit_f HA.out h1)
            go_wp2
            have hNe : Nonempty (Wd (SW wr)) := ⟨⟨_, SW.drew _⟩⟩
            refine quietS (S := SW wr) (by kernel_rfl) (by kernel_rfl) (SW.drew _) ?_
            repeat (first | go_big_quiet_skip | (go_big_quiet_want; go_big_quiet_op; first | go_big_quiet_on | go_big_quiet_call ((fail))))
            refine wpQuiet_nil ?_
            rintro W ⟨⟨_, hW⟩, rfl⟩
            go_wp2
            go_roundg (L.length - (k + 1))
            case measure => have h1 := HKX.out; have h2 := HKN.out.2.2; omega
            case rel => exact ⟨k + 1, by go_num, HKN.out.1, HKN.out.2.1, HK2, Below.trans hSq (Below.mono hW hSq.size)⟩
          | true =>
          cases h2 : (y.t.toList == s.t.toList) with
          | false =>
            have HK2 : Hid (∀ k' : Nat, i ≤ k' → k' < k + 1 → ¬ Hits L s.f s.t i k') := Lib.hid (fun k' h3 h4 => by
              by_cases e : k' = k
              · rw [e]; exact nohit_t HY.out h2
              · exact HK.out k' h3 (by omega))
            go_wp2
            have hNe : Nonempty (Wd (SW wr)) := ⟨⟨_, SW.drew _⟩⟩
            refine quietS (S := SW wr) (by kernel_rfl) (by kernel_rfl) (SW.drew _) ?_
            repeat (first | go_big_quiet_skip | (go_big_quiet_want; go_big_quiet_op; first | go_big_quiet_on | go_big_quiet_call ((fail))))
            refine wpQuiet_nil ?_
            rintro W ⟨⟨_, hW⟩, rfl⟩
            go_wp2
            go_roundg (L.length - (k + 1))
            case measure => have h1 := HKX.out; have h2 := HKN.out.2.2; omega
            case rel => exact ⟨k + 1, by go_num, HKN.out.1, HKN.out.2.1, HK2, Below.trans hSq (Below.mono hW hSq.size)⟩
          | true =>
            have HF : Hid (∀ er I, (((s.dep ≠ a.dep ∨ s.arr ≠ y.arr) ∧ er = 13 ∧ I = []) ∨ (s.dep = a.dep ∧ s.arr = y.arr ∧ er = 0 ∧ I = ((L.drop i).take (k - i + 1)).map idOf)) → PR er I) := Lib.hid (fun er I h => HPC3.out er I (.inr ⟨i, k, a, y, HIK.out, HA.out, HY.out, h1, h2, h⟩))
            go_upto_region 12 with (fail)
            have hNe : Nonempty (Wd (SW wr)) := ⟨⟨_, SW.drew _⟩⟩
            refine quietS (S := SW wr) (by kernel_rfl) (by kernel_rfl) (SW.drew _) ?_
            repeat (first | go_big_quiet_skip | (go_big_quiet_want; go_big_quiet_op; first | go_big_quiet_on | go_big_quiet_call ((fail))))
            refine wpQuiet_nil ?_
            rintro W ⟨⟨_, hW⟩, rfl⟩
            go_upto_region 13 with (fail)
            have hSB : SW w5 W := Below.trans hSA (Below.mono hW hSA.size)
            have hS0W : Below w.heap.size w W := hb0.trans (Below.mono hSB hb0.size)
            have hS1W : SW w1 W := Below.trans hSq (Below.mono hW hSq.size)
            have q0 := SW.cell (HU.out.1 _ hSB)
            have q1 := SW.cell (HU.out.2.1 _ hSB)
            have q2 := SW.cell (HU.out.2.2.1 _ hSB)
            have q3 := SW.cell (HU.out.2.2.2.1 _ hSB)
            have q4 := SW.cell (HU.out.2.2.2.2.1 _ hSB)
            have q5 := SW.cell (HU.out.2.2.2.2.2.1 _ hSB)
            have q6 := SW.cell (HU.out.2.2.2.2.2.2 _ hSB)
            have HKW : Hid (∀ W', SW W W' → Calls Tryz.prog 76 #[.slice (some ⟨g, o, none⟩) L.length c1, .int .i64 (i : Int), .int .i64 (k : Int)] W' fun e w' => e = .returned (.agg #[.string a.car, .int .i64 a.num, .int .i64 a.day, .string a.f, .string y.t, .int .i64 a.dep, .int .i64 y.arr]) ∧ SW W w') := Lib.hid (fun W' h => (HKS.out W' (Below.trans hW (Below.mono h hW.size))).mono (by rintro e w' ⟨he, hb⟩; exact ⟨he, Below.trans h (Below.mono hb h.size)⟩))
            have HE := HLE.out a (List.mem_of_getElem? HA.out)
            obtain ⟨ec, en, ed⟩ := HE
            have x0 : (a.car.toList == s.car.toList) = true := by rw [ec]; exact HCAR.out.1
            have x1 : (a.num == s.num) = true := by rw [en]; exact HCAR.out.2.1
            have x2 : (a.day == s.day) = true := by rw [ed]; exact HCAR.out.2.2
            clear ec en ed a3 y4 t3 t4 hSq hSr hSA hS1 hW HKS
            cases x5 : (a.dep == s.dep) with
            | false =>
              have HR := Lib.hid (HF.out 13 [] (Or.inl ⟨Or.inl (fun h => by rw [h] at x5; simp at x5), rfl, rfl⟩))
              have hNe : Nonempty (Wd (SW W)) := ⟨⟨_, SW.drew _⟩⟩
              refine quietS (S := SW W) (by kernel_rfl) (by kernel_rfl) (SW.drew _) ?_
              repeat (first | go_big_quiet_skip | (go_big_quiet_want; go_big_quiet_op; first | go_big_quiet_on | go_big_quiet_call ((go_at_call 76; exact quiet_S (HKW.out _ (Wd.ok _))))))
              refine wpQuiet_nil ?_
              rintro W ⟨⟨_, hW⟩, rfl⟩
              go_wp2
              exact bodyPost_ret (results_tmp2 rfl _ _ _) rfl (PathPost.mk _ 13 [] rfl ⟨none, 0, rfl, .inl rfl⟩ HR (hS0W.trans (Below.mono hW hS0W.size)))
            | true =>
            cases x6 : (y.arr == s.arr) with
            | false =>
              have HR := Lib.hid (HF.out 13 [] (Or.inl ⟨Or.inr (fun h => by rw [h] at x6; simp at x6), rfl, rfl⟩))
              have hNe : Nonempty (Wd (SW W)) := ⟨⟨_, SW.drew _⟩⟩
              refine quietS (S := SW W) (by kernel_rfl) (by kernel_rfl) (SW.drew _) ?_
              repeat (first | go_big_quiet_skip | (go_big_quiet_want; go_big_quiet_op; first | go_big_quiet_on | go_big_quiet_call ((go_at_call 76; exact quiet_S (HKW.out _ (Wd.ok _))))))
              refine wpQuiet_nil ?_
              rintro W ⟨⟨_, hW⟩, rfl⟩
              go_wp2
              exact bodyPost_ret (results_tmp2 rfl _ _ _) rfl (PathPost.mk _ 13 [] rfl ⟨none, 0, rfl, .inl rfl⟩ HR (hS0W.trans (Below.mono hW hS0W.size)))
            | true =>
              have HR := Lib.hid (HF.out 0 _ (Or.inr ⟨(beq_iff_eq.1 x5).symm, (beq_iff_eq.1 x6).symm, rfl, rfl⟩))
              have hik := HIK.out
              have hil := HNX.out.2
              have hcap := HCP.out
              have HDL : Hid ((L.drop i).length = L.length - i) := Lib.hid (by rw [List.length_drop])
              have hkl : k < L.length := (List.getElem?_eq_some_iff.1 HY.out).1
              have HTL : Hid (k + 1 - i = ((L.drop i).take (k - i + 1)).length) := Lib.hid (by rw [List.length_take, List.length_drop]; omega)
              have l1 : (k : Int) + 1 ≤ (c1 : Int) := by omega
              have l2 : (i : Int) ≤ (k : Int) + 1 := by omega
              have l3 : (0 : Int) ≤ (i : Int) := by omega
              have l4 : ((k : Int) + 1).toNat = k + 1 := by omega
              have l5 : ¬ c1 = i := by omega
              have l6 : i < c1 := by omega
              have l7 : (i : Int) < (c1 : Int) := by omega
              have HVS : Hid (∀ W', SW W W' → RowL 8 encDt W' (.slice (some ⟨g, o + i * 8, none⟩) (k + 1 - i) (c1 - i)) ((L.drop i).take (k - i + 1))) := Lib.hid (fun W' h => RowL.takeL (RowL.dropL (m := L.length - i) (c' := c1 - i) (HV.out.more (Below.trans hS1W (Below.mono h hS1W.size))) hil (by rw [List.length_drop])) (k - i + 1) HTL.out)
              have HIDS : Hid (∀ W', SW W W' → Calls Tryz.prog 78 #[.slice (some ⟨g, o + i * 8, none⟩) (k + 1 - i) (c1 - i)] W' fun e w' => ∃ v, e = .returned v ∧ RowL 4 encI w' v (((L.drop i).take (k - i + 1)).map idOf) ∧ Below W'.heap.size W' w') := Lib.hid (fun W' h => rids_any _ _ W' (HVS.out W' h) (by have h1 := HTL.out; have h2 := HLn.out; omega))
              have hNe : Nonempty (Wd (SW W)) := ⟨⟨_, SW.drew _⟩⟩
              refine quietS (S := SW W) (by kernel_rfl) (by kernel_rfl) (SW.drew _) ?_
              repeat (first | go_big_quiet_skip | (go_big_quiet_want; go_big_quiet_op; first | go_big_quiet_on | go_big_quiet_call ((go_at_call 76; exact quiet_S (HKW.out _ (Wd.ok _))))))
              refine wpQuiet_nil ?_
              rintro W ⟨⟨_, hW⟩, rfl⟩
              have hWW := hW
              clear hkl hcap
              go_wp2_with (go_at_call 78; refine (HIDS.out _ hWW).mono ?_; rintro e w9 ⟨v9, rfl, hv9, hb9⟩)
              exact bodyPost_ret (results_tmp2 rfl _ _ _) rfl (PathPost.mk v9 0 _ rfl hv9 HR ((hS0W.trans (Below.mono hWW hS0W.size)).trans (Below.mono hb9 (hS0W.trans (Below.mono hWW hS0W.size)).size)))
        · have hk : k = L.length := by omega
          have HN2 : Hid (∀ j k : Nat, j < i + 1 → j ≤ k → ¬ Hits L s.f s.t j k) := Lib.hid (fun j k' h1 h2 => by
            by_cases e : j = i
            · subst e
              by_cases e2 : k' < k
              · exact HK.out k' h2 e2
              · exact nohit_end (by omega)
            · exact HN.out j k' (by omega) h2)
          have j2 : ¬ (k : Int) < (L.length : Int) := by omega
          clear HK hkx hk hik
          go_wp2
          go_roundg (L.length - (i + 1))
          case measure => have h1 := HIX.out; have h2 := HNX.out.2; omega
          case rel => exact ⟨i + 1, by go_num, HNX.out.1, HN2, hSq⟩
    · have hi : i = L.length := by omega
      have HR : Hid (PR 14 []) := Lib.hid (HPC3.out 14 [] (.inl ⟨rfl, rfl, fun j k h => by
        by_cases e : j < i
        · exact HN.out j k e h
        · exact nohit_end (by omega)⟩))
      have hSz : Below w.heap.size w wr := hb0.trans (Below.mono (Below.trans hS1 (Below.mono hSr hS1.size)) hb0.size)
      have i2 : ¬ (i : Int) < (L.length : Int) := by omega
      clear hix hi
      go_wp2
      exact bodyPost_ret (results_tmp2 rfl _ _ _) rfl (PathPost.mk _ 14 [] rfl ⟨none, 0, rfl, .inl rfl⟩ HR hSz)

end Go.Proofs.YtfgmlbmjjihhfaaGreatDoor

/- What the program's Path and the reference's return, is one and the same for a flight without violations. -/
namespace Go.Proofs.YtfgmlbmjjihhfaaGreatDoor
open Go.RowKit Go.Shelf
set_option linter.unusedSimpArgs false
set_option linter.unusedVariables false

theorem CovR.congr {L : List Dt} {fr tt fr' tt' : ByteArray} {R : List Dt} (e1 : fr.toList = fr'.toList) (e2 : tt.toList = tt'.toList) (h : CovR L fr tt R) : CovR L fr' tt' R := by
  unfold CovR at h ⊢
  rw [e1, e2] at h
  exact h
theorem no_mis {f : FV} {s : Sg} (c : (s.car.toList == f.car.toList) = true) (n : s.num = f.num) (m : (s.car.toList == f.car.toList) = false ∨ s.num ≠ f.num) : False := by
  rcases m with h | h
  · rw [h] at c; cases c
  · exact h n
theorem path_eq {l : List Air} {f : FV} {s : Sg} {e e' : Int} {I I' : List Idd} (hn : lgsF l f.lg f.lg.length = []) (h1 : PathR l f s e I) (h2 : RPathR l f s e' I') : e = e' ∧ I = I' := by
  rcases h1 with ⟨m1, h3, h4⟩ | ⟨c1, n1, ne1, h3, h4⟩ | ⟨c1, n1, z1, R, hc, h1⟩
  · rcases h2 with ⟨m2, h5, h6⟩ | ⟨c2, n2, _⟩ | ⟨c2, n2, _⟩
    · exact ⟨h3.trans h5.symm, h4.trans h6.symm⟩
    · exact (no_mis c2 n2 m1).elim
    · exact (no_mis c2 n2 m1).elim
  · rcases h2 with ⟨m2, h5, h6⟩ | ⟨c2, n2, _, h5, h6⟩ | ⟨c2, n2, z2, _⟩
    · exact (no_mis c1 n1 m2).elim
    · exact ⟨h3.trans h5.symm, h4.trans h6.symm⟩
    · exact absurd z2 ne1
  · rcases h2 with ⟨m2, h5, h6⟩ | ⟨c2, n2, ne2, _⟩ | ⟨c2, n2, z2, h2⟩
    · exact (no_mis c1 n1 m2).elim
    · exact absurd z1 ne2
    · have hq : Per.hasQ (f.pf, f.pt, f.pd) s.day = true := by
        cases hq : Per.hasQ (f.pf, f.pt, f.pd) s.day
        · unfold legE at z1
          rw [hq] at z1
          simp at z1
        · rfl
      have eL : legF l f s.day = f.lg.map (datL l f s.day) := by unfold legF; rw [hq]; rfl
      rw [eL] at hc h2
      rcases h2 with ⟨h5, h6, hno⟩ | ⟨i, k, a, b, hik, ha, hb, hpa, hpb, h2⟩
      · have hR : R = [] := by
          rcases hc with ⟨h, _⟩ | ⟨i, k, a, y, ha, hpa, _, hy, hpy, _, _⟩
          · exact h
          · rw [List.getElem?_drop] at hy
            exact absurd ⟨a, y, ha, hy, hpa, hpy⟩ (hno i (i + k) (by omega))
        subst hR
        rcases h1 with ⟨_, h7, h8⟩ | ⟨a, z, ha, _⟩
        · exact ⟨h7.trans h5.symm, h8.trans h6.symm⟩
        · simp at ha
      · obtain ⟨x, hx, rfl⟩ := map_at ha
        obtain ⟨y, hy, rfl⟩ := map_at hb
        have hR := cov_is hn hx hy hik (CovR.congr (beq_lists hpa).symm (beq_lists hpb).symm hc)
        have hmi : ((f.lg.map (datL l f s.day)).drop i)[0]? = some (datL l f s.day x) := by rw [List.getElem?_drop, Nat.add_zero]; exact ha
        have hmk : ((f.lg.map (datL l f s.day)).drop i)[k - i]? = some (datL l f s.day y) := by rw [List.getElem?_drop, show i + (k - i) = k by omega]; exact hb
        have hkl := (List.getElem?_eq_some_iff.1 hmk).1
        have hlen : R.length = k - i + 1 := by rw [hR, List.length_take]; omega
        have hR0 : R[0]? = some (datL l f s.day x) := by rw [hR, List.getElem?_take, if_pos (by omega)]; exact hmi
        have hRk : R[R.length - 1]? = some (datL l f s.day y) := by rw [hlen, Nat.add_sub_cancel, hR, List.getElem?_take, if_pos (by omega)]; exact hmk
        rcases h1 with ⟨h3, _⟩ | ⟨a, z, ha', hz', h1⟩
        · rw [h3] at hlen; simp at hlen
        · rw [hR0] at ha'
          rw [hRk] at hz'
          cases ha'
          cases hz'
          rcases h1 with ⟨d1, h3, h4⟩ | ⟨d1, d2, h3, h4⟩
          · rcases h2 with ⟨_, h5, h6⟩ | ⟨g1, g2, _⟩
            · exact ⟨h3.trans h5.symm, h4.trans h6.symm⟩
            · rcases d1 with d | d
              · exact absurd g1 d
              · exact absurd g2 d
          · rcases h2 with ⟨g, _⟩ | ⟨_, _, h5, h6⟩
            · rcases g with d | d
              · exact absurd d1 d
              · exact absurd d2 d
            · exact ⟨h3.trans h5.symm, by rw [h4, h6, hR]⟩
theorem PathR.len {l : List Air} {f : FV} {s : Sg} {e : Int} {I : List Idd} (hn : f.lg.length ≤ 100) (h : PathR l f s e I) : I.length ≤ 1000 := by
  rcases h with ⟨_, _, h⟩ | ⟨_, _, _, _, h⟩ | ⟨_, _, _, R, hc, h⟩
  · rw [h]; simp
  · rw [h]; simp
  · have h1 := hc.len
    have h2 : (legF l f s.day).length ≤ 100 := by unfold legF; split <;> simp <;> omega
    rcases h with ⟨_, _, h⟩ | ⟨_, _, _, _, ⟨_, _, h⟩ | ⟨_, _, _, h⟩⟩
    · rw [h]; simp
    · rw [h]; simp
    · rw [h, List.length_map]; omega

end Go.Proofs.YtfgmlbmjjihhfaaGreatDoor

/- Walk of the law FlightPaths. -/
namespace Go.Proofs.YtfgmlbmjjihhfaaGreatDoor
open Go.RowKit Go.Shelf
set_option linter.unusedSimpArgs false
set_option linter.unusedVariables false

set_option maxRecDepth 100000 in
set_option maxHeartbeats 8000000 in
theorem flightPaths_walk (p : PV) (f : FV) (s : Sg) (bd : -9223372036854775808 ≤ s.day ∧ s.day ≤ 9223372036854775807) (w : World) (hE : EnvP w) (hP : PlL w p) (hA : ∀ a ∈ p.l, OkA a) (hD : ∀ d ∈ p.ds, OkD d) (h1 : p.l.length < 9223372036854775808) (h2 : p.ds.length < 9223372036854775808) (hG : LegL w (.slice f.A f.lg.length f.c) f.lg) (of : OkFl f) :
    Calls Tryz.prog 5 #[encP p, encFl f, encS7 s] w fun e w' => e = .returned (.bool true) ∧ Below w.heap.size w w' := by
  have hb1 := bel_alloc w (.cells #[.slice p.A p.l.length p.ca, .slice p.D p.ds.length p.cd] placesT)
  have hb2 := bel_alloc (w.alloc (.cells #[.slice p.A p.l.length p.ca, .slice p.D p.ds.length p.cd] placesT)) (.cells #[.string f.car, .int .i64 f.num, .int .i64 f.pf, .int .i64 f.pt, .int .i64 f.pd, .slice f.A f.lg.length f.c] fliT)
  have hb3 := bel_alloc ((w.alloc (.cells #[.slice p.A p.l.length p.ca, .slice p.D p.ds.length p.cd] placesT)).alloc (.cells #[.string f.car, .int .i64 f.num, .int .i64 f.pf, .int .i64 f.pt, .int .i64 f.pd, .slice f.A f.lg.length f.c] fliT)) (.cells #[.string s.car, .int .i64 s.num, .int .i64 s.day, .string s.f, .string s.t, .int .i64 s.dep, .int .i64 s.arr] segT)
  have hb0 : Below w.heap.size w (((w.alloc (.cells #[.slice p.A p.l.length p.ca, .slice p.D p.ds.length p.cd] placesT)).alloc (.cells #[.string f.car, .int .i64 f.num, .int .i64 f.pf, .int .i64 f.pt, .int .i64 f.pd, .slice f.A f.lg.length f.c] fliT)).alloc (.cells #[.string s.car, .int .i64 s.num, .int .i64 s.day, .string s.f, .string s.t, .int .i64 s.dep, .int .i64 s.arr] segT)) := hb1.trans ((hb2.mono hb1.size).trans (hb3.mono (Nat.le_trans hb1.size hb2.size)))
  have p0 := bel_cell hb3 (bel_cell hb2 ((cells_new w #[.slice p.A p.l.length p.ca, .slice p.D p.ds.length p.cd] placesT 0).trans (show _ = some (Value.slice p.A p.l.length p.ca) from rfl)))
  have p1 := bel_cell hb3 (bel_cell hb2 ((cells_new w #[.slice p.A p.l.length p.ca, .slice p.D p.ds.length p.cd] placesT 1).trans (show _ = some (Value.slice p.D p.ds.length p.cd) from rfl)))
  have q0 := bel_cell hb3 ((cells_new (w.alloc (.cells #[.slice p.A p.l.length p.ca, .slice p.D p.ds.length p.cd] placesT)) #[.string f.car, .int .i64 f.num, .int .i64 f.pf, .int .i64 f.pt, .int .i64 f.pd, .slice f.A f.lg.length f.c] fliT 0).trans (show _ = some (Value.string f.car) from rfl))
  have q1 := bel_cell hb3 ((cells_new (w.alloc (.cells #[.slice p.A p.l.length p.ca, .slice p.D p.ds.length p.cd] placesT)) #[.string f.car, .int .i64 f.num, .int .i64 f.pf, .int .i64 f.pt, .int .i64 f.pd, .slice f.A f.lg.length f.c] fliT 1).trans (show _ = some (Value.int .i64 f.num) from rfl))
  have q2 := bel_cell hb3 ((cells_new (w.alloc (.cells #[.slice p.A p.l.length p.ca, .slice p.D p.ds.length p.cd] placesT)) #[.string f.car, .int .i64 f.num, .int .i64 f.pf, .int .i64 f.pt, .int .i64 f.pd, .slice f.A f.lg.length f.c] fliT 2).trans (show _ = some (Value.int .i64 f.pf) from rfl))
  have q3 := bel_cell hb3 ((cells_new (w.alloc (.cells #[.slice p.A p.l.length p.ca, .slice p.D p.ds.length p.cd] placesT)) #[.string f.car, .int .i64 f.num, .int .i64 f.pf, .int .i64 f.pt, .int .i64 f.pd, .slice f.A f.lg.length f.c] fliT 3).trans (show _ = some (Value.int .i64 f.pt) from rfl))
  have q4 := bel_cell hb3 ((cells_new (w.alloc (.cells #[.slice p.A p.l.length p.ca, .slice p.D p.ds.length p.cd] placesT)) #[.string f.car, .int .i64 f.num, .int .i64 f.pf, .int .i64 f.pt, .int .i64 f.pd, .slice f.A f.lg.length f.c] fliT 4).trans (show _ = some (Value.int .i64 f.pd) from rfl))
  have q5 := bel_cell hb3 ((cells_new (w.alloc (.cells #[.slice p.A p.l.length p.ca, .slice p.D p.ds.length p.cd] placesT)) #[.string f.car, .int .i64 f.num, .int .i64 f.pf, .int .i64 f.pt, .int .i64 f.pd, .slice f.A f.lg.length f.c] fliT 5).trans (show _ = some (Value.slice f.A f.lg.length f.c) from rfl))
  have s0 := (cells_new ((w.alloc (.cells #[.slice p.A p.l.length p.ca, .slice p.D p.ds.length p.cd] placesT)).alloc (.cells #[.string f.car, .int .i64 f.num, .int .i64 f.pf, .int .i64 f.pt, .int .i64 f.pd, .slice f.A f.lg.length f.c] fliT)) #[.string s.car, .int .i64 s.num, .int .i64 s.day, .string s.f, .string s.t, .int .i64 s.dep, .int .i64 s.arr] segT 0).trans (show _ = some (Value.string s.car) from rfl)
  have s1 := (cells_new ((w.alloc (.cells #[.slice p.A p.l.length p.ca, .slice p.D p.ds.length p.cd] placesT)).alloc (.cells #[.string f.car, .int .i64 f.num, .int .i64 f.pf, .int .i64 f.pt, .int .i64 f.pd, .slice f.A f.lg.length f.c] fliT)) #[.string s.car, .int .i64 s.num, .int .i64 s.day, .string s.f, .string s.t, .int .i64 s.dep, .int .i64 s.arr] segT 1).trans (show _ = some (Value.int .i64 s.num) from rfl)
  have s2 := (cells_new ((w.alloc (.cells #[.slice p.A p.l.length p.ca, .slice p.D p.ds.length p.cd] placesT)).alloc (.cells #[.string f.car, .int .i64 f.num, .int .i64 f.pf, .int .i64 f.pt, .int .i64 f.pd, .slice f.A f.lg.length f.c] fliT)) #[.string s.car, .int .i64 s.num, .int .i64 s.day, .string s.f, .string s.t, .int .i64 s.dep, .int .i64 s.arr] segT 2).trans (show _ = some (Value.int .i64 s.day) from rfl)
  have s3 := (cells_new ((w.alloc (.cells #[.slice p.A p.l.length p.ca, .slice p.D p.ds.length p.cd] placesT)).alloc (.cells #[.string f.car, .int .i64 f.num, .int .i64 f.pf, .int .i64 f.pt, .int .i64 f.pd, .slice f.A f.lg.length f.c] fliT)) #[.string s.car, .int .i64 s.num, .int .i64 s.day, .string s.f, .string s.t, .int .i64 s.dep, .int .i64 s.arr] segT 3).trans (show _ = some (Value.string s.f) from rfl)
  have s4 := (cells_new ((w.alloc (.cells #[.slice p.A p.l.length p.ca, .slice p.D p.ds.length p.cd] placesT)).alloc (.cells #[.string f.car, .int .i64 f.num, .int .i64 f.pf, .int .i64 f.pt, .int .i64 f.pd, .slice f.A f.lg.length f.c] fliT)) #[.string s.car, .int .i64 s.num, .int .i64 s.day, .string s.f, .string s.t, .int .i64 s.dep, .int .i64 s.arr] segT 4).trans (show _ = some (Value.string s.t) from rfl)
  have s5 := (cells_new ((w.alloc (.cells #[.slice p.A p.l.length p.ca, .slice p.D p.ds.length p.cd] placesT)).alloc (.cells #[.string f.car, .int .i64 f.num, .int .i64 f.pf, .int .i64 f.pt, .int .i64 f.pd, .slice f.A f.lg.length f.c] fliT)) #[.string s.car, .int .i64 s.num, .int .i64 s.day, .string s.f, .string s.t, .int .i64 s.dep, .int .i64 s.arr] segT 5).trans (show _ = some (Value.int .i64 s.dep) from rfl)
  have s6 := (cells_new ((w.alloc (.cells #[.slice p.A p.l.length p.ca, .slice p.D p.ds.length p.cd] placesT)).alloc (.cells #[.string f.car, .int .i64 f.num, .int .i64 f.pf, .int .i64 f.pt, .int .i64 f.pd, .slice f.A f.lg.length f.c] fliT)) #[.string s.car, .int .i64 s.num, .int .i64 s.day, .string s.f, .string s.t, .int .i64 s.dep, .int .i64 s.arr] segT 6).trans (show _ = some (Value.int .i64 s.arr) from rfl)
  rw [World.size_alloc] at q0 q1 q2 q3 q4 q5
  rw [World.size_alloc, World.size_alloc] at s0 s1 s2 s3 s4 s5 s6
  have HP := Lib.hid (hP.more hb0)
  have HG := Lib.hid (hG.more hb0)
  have HE := Lib.hid (hE.more hb0)
  have HOF := Lib.hid of
  have hlen := of.len
  clear hP hG hE of
  go_enter Tryz.func5, Tryz.ntmps5
  go_upto_region 1 with (fail)
  generalize hw5 : ((w.alloc (.cells #[.slice p.A p.l.length p.ca, .slice p.D p.ds.length p.cd] placesT)).alloc (.cells #[.string f.car, .int .i64 f.num, .int .i64 f.pf, .int .i64 f.pt, .int .i64 f.pd, .slice f.A f.lg.length f.c] fliT)).alloc (.cells #[.string s.car, .int .i64 s.num, .int .i64 s.day, .string s.f, .string s.t, .int .i64 s.dep, .int .i64 s.arr] segT) = w5 at *
  clear hw5 hb1 hb2 hb3
  have f0 := bel_get q0
  have f1 := bel_get q1
  have f2 := bel_get q2
  have f3 := bel_get q3
  have f4 := bel_get q4
  have f5 := bel_get q5
  have u0 := bel_get s0
  have u1 := bel_get s1
  have u2 := bel_get s2
  have u3 := bel_get s3
  have u4 := bel_get s4
  have u5 := bel_get s5
  have u6 := bel_get s6
  have y0 := bel_get p0
  have y1 := bel_get p1
  clear p0 p1 q0 q1 q2 q3 q4 q5 s0 s1 s2 s3 s4 s5 s6
  have KW : Hid (∀ W, SW w5 W → Calls Tryz.prog 15 #[] W fun e w' => e = .returned (.bool true) ∧ SW w5 w') := Lib.hid (SW.call (fun W h => awake7_any W (HE.out.more h)))
  have KR : Hid (∀ W, SW w5 W → Calls Tryz.prog 19 #[encP p, encFl f] W fun e w' => ∃ v : Value, e = .returned v ∧ Hid (v = .bool false ∨ (v = .bool true ∧ RightF p f)) ∧ SW w5 w') := Lib.hid (fun W h => (right_any p f W (HP.out.more h) hA hD h1 h2 (HG.out.more h) HOF.out).mono (by
    rintro e w' ⟨v, rfl, hv, hb⟩
    exact ⟨v, rfl, hv, Below.trans h (Below.mono hb h.size)⟩))
  have hS : SW w5 w5 := Below.refl _ _
  have k0 := f0 _ hS
  have k1 := f1 _ hS
  have k2 := f2 _ hS
  have k3 := f3 _ hS
  have k4 := f4 _ hS
  have k5 := f5 _ hS
  have z0 := y0 _ hS
  have z1 := y1 _ hS
  have t0 := u0 _ hS
  have t1 := u1 _ hS
  have t2 := u2 _ hS
  have t3 := u3 _ hS
  have t4 := u4 _ hS
  have t5 := u5 _ hS
  have t6 := u6 _ hS
  go_wp2_with (go_at_call 19; refine (KR.out _ hS).mono ?_; rintro e w1 ⟨v1, rfl, hv1, hS⟩; refine Hid.out ?_)
  clear k0 k1 k2 k3 k4 k5 z0 z1 t0 t1 t2 t3 t4 t5 t6
  rcases hv1.out with rfl | ⟨rfl, hR⟩
  · refine Lib.hid ?_
    go_wp2_with (go_at_call 15; refine (KW.out _ hS).mono ?_; rintro e w9 ⟨rfl, hS⟩)
    go_ret
    exact ⟨rfl, hb0.trans (Below.mono hS hb0.size)⟩
  clear hv1 KR
  have hz := chk_okZ hR.chk
  have hs := chk_few hR.chk
  have hnil := chF_nil hR.ch
  have ht : ∀ x ∈ f.lg, (-1000000 ≤ x.dep ∧ x.dep ≤ 1000000) ∧ -1000000 ≤ x.arr ∧ x.arr ≤ 1000000 := fun x hx => lgs_times hnil.2.2.1 hx
  have l40 : p.l.length ≤ 40 := by have := hR.la; omega
  have l100 : f.lg.length ≤ 100 := by have := hR.lg; omega
  have hc1 : 1 ≤ f.lg.length := by
    have h := hnil.1
    unfold cntB at h
    simp at h
    omega
  have KP1 : Hid (∀ W, SW w5 W → Calls Tryz.prog 24 #[encP p, encFl f, encS7 s] W fun e w' => ∃ (v : Value) (er : Int) (I : List Idd), e = .returned (.tuple #[v, .int .i64 er]) ∧ RowL 4 encI w' v I ∧ Hid (PathR p.l f s er I) ∧ SW w5 w') := Lib.hid (fun W h => (path_any p f s W l40 (HP.out.more h).air hs hz (HG.out.more h) l100 hc1 ht bd.1 bd.2).mono (by rintro e w' ⟨v, er, I, rfl, h3, h4, hb⟩; exact ⟨v, er, I, rfl, h3, h4, Below.trans h (Below.mono hb h.size)⟩))
  have KP2 : Hid (∀ W, SW w5 W → Calls Tryz.prog 25 #[encP p, encFl f, encS7 s] W fun e w' => ∃ (v : Value) (er : Int) (I : List Idd), e = .returned (.tuple #[v, .int .i64 er]) ∧ RowL 4 encI w' v I ∧ Hid (RPathR p.l f s er I) ∧ Below W.heap.size W w' ∧ SW w5 w') := Lib.hid (fun W h => (rpath_any p f s W l40 (HP.out.more h).air hz (HG.out.more h) l100 ht bd.1 bd.2).mono (by rintro e w' ⟨v, er, I, rfl, h3, h4, hb⟩; exact ⟨v, er, I, rfl, h3, h4, hb, Below.trans h (Below.mono hb h.size)⟩))
  have KEQ : Hid (∀ e e' I I', PathR p.l f s e I → RPathR p.l f s e' I' → (e' = e ∧ I' = I) ∧ I.length ≤ 1000) := Lib.hid (fun e e' I I' h3 h4 => ⟨⟨(path_eq hnil.2.2.1 h3 h4).1.symm, (path_eq hnil.2.2.1 h3 h4).2.symm⟩, h3.len l100⟩)
  generalize PathR p.l f s = PR at *
  generalize RPathR p.l f s = QR at *
  clear hz hs hnil ht hR l40 l100 hc1
  have k0 := f0 _ hS
  have k1 := f1 _ hS
  have k2 := f2 _ hS
  have k3 := f3 _ hS
  have k4 := f4 _ hS
  have k5 := f5 _ hS
  have z0 := y0 _ hS
  have z1 := y1 _ hS
  have t0 := u0 _ hS
  have t1 := u1 _ hS
  have t2 := u2 _ hS
  have t3 := u3 _ hS
  have t4 := u4 _ hS
  have t5 := u5 _ hS
  have t6 := u6 _ hS
  refine Lib.hid ?_
  go_upto_region 4 with (go_at_call 24; refine (KP1.out _ hS).mono ?_; rintro e w2 ⟨v2, er2, I2, rfl, hv2, hq2, hS⟩)
  clear k0 k1 k2 k3 k4 k5 z0 z1 t0 t1 t2 t3 t4 t5 t6
  have k0 := f0 _ hS
  have k1 := f1 _ hS
  have k2 := f2 _ hS
  have k3 := f3 _ hS
  have k4 := f4 _ hS
  have k5 := f5 _ hS
  have z0 := y0 _ hS
  have z1 := y1 _ hS
  have t0 := u0 _ hS
  have t1 := u1 _ hS
  have t2 := u2 _ hS
  have t3 := u3 _ hS
  have t4 := u4 _ hS
  have t5 := u5 _ hS
  have t6 := u6 _ hS
  go_upto_region 5 with (go_at_call 25; refine (KP2.out _ hS).mono ?_; rintro e w3 ⟨v3, er3, I3, rfl, hv3, hq3, hb3, hS⟩; have hv2 := hv2.more hb3)
  clear k0 k1 k2 k3 k4 k5 z0 z1 t0 t1 t2 t3 t4 t5 t6
  obtain ⟨⟨rfl, rfl⟩, hl3⟩ := KEQ.out _ _ _ _ hq2.out hq3.out
  have KI := Lib.hid (SW.call (w5 := w3) (fun W h => sameIds_any v2 v3 _ W (hv2.more h) (hv3.more h) hl3))
  have hee : ((er3 : Int) == er3) = true := by simp
  clear hq2 hq3 hv2 hv3 hb3 hl3
  have hS3 : SW w3 w3 := Below.refl _ _
  go_wp2_with (first
    | (go_at_call 26; refine (KI.out _ hS3).mono ?_; rintro e w4 ⟨rfl, hS4⟩; have hS := Below.trans hS (Below.mono hS4 hS.size))
    | (go_at_call 15; refine (KW.out _ hS).mono ?_; rintro e w9 ⟨rfl, hS⟩))
  go_ret
  exact ⟨rfl, hb0.trans (Below.mono hS hb0.size)⟩

end Go.Proofs.YtfgmlbmjjihhfaaGreatDoor
