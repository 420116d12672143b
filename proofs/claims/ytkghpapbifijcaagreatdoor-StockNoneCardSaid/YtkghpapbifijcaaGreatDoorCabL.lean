/- Walk of Find. -/
import Derived.Test.YtkghpapbifijcaaGreatDoorCabK
import Derived.Deep.RegionWith
import Derived.Deep.CutRange
import Derived.Deep.CutBlock
namespace Go.Proofs.YtkghpapbifijcaaGreatDoor
open Go.RowKit Go.Shelf
set_option linter.unusedSimpArgs false
set_option linter.unusedVariables false

theorem sam_len {L M : List Cb} (h : L.map pcb = M.map pcb) : L.length = M.length := by have := congrArg List.length h; simpa using this
theorem sam_at {L M : List Cb} (h : L.map pcb = M.map pcb) {k : Nat} {b b' : Cb} (hb : L[k]? = some b) (hb' : M[k]? = some b') : pcb b = pcb b' := by
  have h1 : (L.map pcb)[k]? = some (pcb b) := by rw [List.getElem?_map, hb]; rfl
  rw [h, List.getElem?_map, hb'] at h1
  exact (Option.some.inj h1).symm
/-- the memory while the classes of a copy are copied -/
structure FSt (w : World) (M R : Nat) (A3 : Option Addr) (c3 : Nat) (f : Cf) (L : List Cb) (W : World) : Prop where
  m0 : W.cell? ⟨M, 0, none⟩ = some (.string f.equip)
  m1 : W.cell? ⟨M, 1, none⟩ = some (.slice A3 f.l.length c3)
  r : W.heap[R]? = some (.cells #[.string noB, .slice none 0 0] cfT (0, 0))
  sam : L.map pcb = f.l.map pcb
  row : L = [] ∨ ∃ G, A3 = some ⟨G, 0, none⟩ ∧ G ≠ M ∧ G ≠ R ∧ w.heap.size ≤ G ∧ CbRow W G L
  off : ∀ b ∈ L, b.l = [] ∨ ∀ g o, b.A = some ⟨g, o, none⟩ → g ≠ R
  bel : Below w.heap.size w W
theorem FSt.step {w : World} {M R : Nat} {c3 G : Nat} {f : Cf} {L : List Cb} {W W' : World} (h : FSt w M R (some ⟨G, 0, none⟩) c3 f L W) (hb : Below W.heap.size W W') (hGM : G ≠ M) (hGR : G ≠ R) (hG : w.heap.size ≤ G) (hrow : CbRow W G L) {k : Nat} {b : Cb} (hk : L[k]? = some b) {A' : Option Addr} {c' : Nat}
    (hcl : ClL W' (.slice A' b.l.length c') b.l) (hne : b.l = [] ∨ ∀ g o, A' = some ⟨g, o, none⟩ → W.heap.size ≤ g) : FSt w M R (some ⟨G, 0, none⟩) c3 f (L.set k { b with A := A', c := c' }) (W'.setCell ⟨G, k * 4 + 3, none⟩ (.slice A' b.l.length c')) where
  m0 := by rw [World.cell?_setCell_other _ _ _ _ (by intro e; simp only [Addr.mk.injEq] at e; exact hGM e.1)]; exact bel_cell hb h.m0
  m1 := by rw [World.cell?_setCell_other _ _ _ _ (by intro e; simp only [Addr.mk.injEq] at e; exact hGM e.1)]; exact bel_cell hb h.m1
  r := by rw [heap_setCell_other _ _ _ _ (fun e => hGR e.symm)]; exact (hb.block _ (lt_of_cell2 h.r)).trans h.r
  sam := (pcb_set (b' := { b with A := A', c := c' }) hk rfl).trans h.sam
  row := .inr ⟨G, rfl, hGM, hGR, hG, (hrow.more hb).set hk A' c' hcl (by
    rcases hne with h1 | h1
    · exact .inl h1
    · exact .inr (fun g o e => by have := h1 g o e; have := hrow.lt; omega))⟩
  off := fun x hx => by
    rcases List.mem_or_eq_of_mem_set hx with hm | rfl
    · exact h.off x hm
    · rcases hne with h1 | h1
      · exact .inl h1
      · exact .inr (fun g o e => by have := h1 g o e; have := lt_of_cell2 h.r; omega)
  bel := (h.bel.trans (hb.mono h.bel.size)).setCell (p := ⟨G, k * 4 + 3, none⟩) hG _

set_option maxRecDepth 100000 in
set_option maxHeartbeats 16000000 in
theorem find_any (A : Option Addr) (c : Nat) (l : List Cf) (s : ByteArray) (w : World) (hv : CfL w (.slice A l.length c) l) (hn : l.length ≤ 8) (hok : ∀ f ∈ l, OkCf f) :
    Calls Tryz.prog 42 #[.slice A l.length c, .string s] w fun e w' => FindO (findQ l s) e w' ∧ Below w.heap.size w w' := by
  have HV := Lib.hid hv
  have HOK := Lib.hid hok
  have hbA := bel_alloc w (.cells #[.string s] 9)
  have hbB := bel_alloc (w.alloc (.cells #[.string s] 9)) (.cells #[.string noB, .slice none 0 0] cfT)
  have hb0 := hbA.trans (hbB.mono hbA.size)
  have q0 := bel_cell hbB ((cells_new w #[.string s] 9 0).trans (show _ = some (Value.string s) from rfl))
  have hN := heap_alloc_new (w.alloc (.cells #[.string s] 9)) (.cells #[.string noB, .slice none 0 0] cfT)
  rw [World.size_alloc] at hN
  have KI := Lib.hid (idxCf_any _ #[.pointer (some ⟨w.heap.size, 0, none⟩)] A c l (fun f => eqS f.equip s) _ eg_find (by omega) (hv.more hb0).1 (fun a W ha hW => equipc_any a s w.heap.size W (bel_cell hW q0)))
  obtain ⟨R, hR⟩ : ∃ R, R = w.heap.size + 1 := ⟨_, rfl⟩
  have HR := Lib.hid hR
  rw [← hR] at hN
  obtain ⟨B, hB⟩ : ∃ B, B = w.heap.size := ⟨_, rfl⟩
  have HB := Lib.hid hB
  rw [← hB] at q0 KI
  have HQ := idxQ_find (fun f : Cf => eqS f.equip s) l
  clear hv hok hbA hbB
  rcases HQ with ⟨h1, h2, h3⟩ | ⟨k, f, h1, h2, h3, h4, h5, h6⟩
  · rw [h1] at KI
    have HFi : Hid (findQ l s = none) := Lib.hid h2
    clear h1 h2 h3
    go_enter Tryz.func42, Tryz.ntmps42
    go_upto_region 1 with fail
    rw [← hR, ← hB]
    have HB5 := Lib.hid hb0
    generalize (w.alloc (.cells #[.string s] 9)).alloc (.cells #[.string noB, .slice none 0 0] cfT) = w5 at *
    clear hb0 hR hB q0
    go_upto_region 2 with (go_at_call 89; refine KI.out.mono ?_; rintro e w1 ⟨rfl, hb1⟩)
    have HB1 : Hid (Below w.heap.size w w1) := Lib.hid (HB5.out.trans (Below.mono hb1 HB5.out.size))
    have hN1 := (hb1.block _ (lt_of_cell2 hN)).trans hN
    clear hN hb1 KI
    obtain ⟨n0, n1, m0, m1⟩ := row2_cells hN1
    have hx := S2.heap hN1 (.string noB) (.slice none 0 0)
    have hbt := S2.but w1 R (.string noB) (.slice none 0 0)
    have hbw : Below w.heap.size w ((w1.setCell ⟨R, 0, none⟩ (.string noB)).setCell ⟨R, 1, none⟩ (.slice none 0 0)) := HB1.out.trans (hbt.below HB1.out.size (fun k hk => by have := HR.out; omega))
    obtain ⟨c0, c1, _, _⟩ := row2_cells hx
    have HX := Lib.hid hbw
    clear hx hbt hbw hN1
    go_wp2
    refine bodyPost_ret (v := .tuple #[aggCf cfZ, .bool false]) ?_ rfl ⟨⟨cfZ, by rw [HFi.out]; rfl, ⟨⟨none, 0, rfl, .inl rfl⟩, fun b hb => by cases hb⟩, by rw [HFi.out]; exact SamC.refl cfZ⟩, HX.out⟩
    generalize (w1.setCell ⟨R, 0, none⟩ (.string noB)).setCell ⟨R, 1, none⟩ (.slice none 0 0) = WW at c0 c1 ⊢
    simp [results, Tryz.results42, go_sem, c0, c1, cfZ]
  · rw [h1] at KI
    have HFi : Hid (findQ l s = some f) := Lib.hid h3
    have HF := Lib.hid h2
    have hokf := HOK.out f (List.mem_of_getElem? h2)
    have hlen := hokf.len
    have HOF := Lib.hid hokf
    have i1 : (0 : Int) ≤ (k : Int) := by omega
    have i2 : (k : Int) < (l.length : Int) := by omega
    clear h1 h2 h3 h5 h6 hokf
    go_enter Tryz.func42, Tryz.ntmps42
    go_upto_region 1 with fail
    rw [← hR, ← hB]
    have HB5 := Lib.hid hb0
    generalize (w.alloc (.cells #[.string s] 9)).alloc (.cells #[.string noB, .slice none 0 0] cfT) = w5 at *
    clear hb0 hR hB q0
    go_upto_region 2 with (go_at_call 89; refine KI.out.mono ?_; rintro e w1 ⟨rfl, hb1⟩)
    have HB1 : Hid (Below w.heap.size w w1) := Lib.hid (HB5.out.trans (Below.mono hb1 HB5.out.size))
    have hN1 := (hb1.block _ (lt_of_cell2 hN)).trans hN
    have HN1 := Lib.hid hN1
    clear hN hb1 KI hN1
    obtain ⟨b1, o1, e1, hgl, hc⟩ := row_get (HV.out.more HB1.out).1 HF.out
    cases e1
    have z0 := hc 0 _ rfl
    have z1 := hc 1 _ rfl
    rw [Nat.add_zero] at z0
    have hbM := bel_alloc w1 (.cells #[.string f.equip, .slice f.A f.l.length f.c] cfT)
    have hM := heap_alloc_new w1 (.cells #[.string f.equip, .slice f.A f.l.length f.c] cfT)
    obtain ⟨M, hMe⟩ : ∃ M, M = w1.heap.size := ⟨_, rfl⟩
    rw [← hMe] at hM
    have HFL : Hid (CbL (w1.alloc (.cells #[.string f.equip, .slice f.A f.l.length f.c] cfT)) (.slice f.A f.l.length f.c) f.l) := Lib.hid (CbL.more (HV.out.2 f (List.mem_of_getElem? HF.out)) (HB1.out.trans (hbM.mono HB1.out.size)))
    have HOR : Hid (∀ b ∈ f.l, b.l = [] ∨ ∀ g o, b.A = some ⟨g, o, none⟩ → g < w.heap.size) := Lib.hid (fun b hb => RowL.blk ((HV.out.2 f (List.mem_of_getElem? HF.out)).2 b hb))
    have HB2 : Hid (Below w.heap.size w (w1.alloc (.cells #[.string f.equip, .slice f.A f.l.length f.c] cfT))) := Lib.hid (HB1.out.trans (hbM.mono HB1.out.size))
    have HN2 : Hid ((w1.alloc (.cells #[.string f.equip, .slice f.A f.l.length f.c] cfT)).heap[R]? = some (.cells #[.string noB, .slice none 0 0] cfT (0, 0))) := Lib.hid ((hbM.block _ (lt_of_cell2 HN1.out)).trans HN1.out)
    have HMR : Hid (R < M) := Lib.hid (by have := lt_of_cell2 HN1.out; omega)
    have hneg : ¬ (k : Int) < 0 := by omega
    go_upto_region 5 with fail
    rw [← hMe]
    clear z0 z1 hc hgl hMe
    generalize w1.alloc (.cells #[.string f.equip, .slice f.A f.l.length f.c] cfT) = w2 at *
    obtain ⟨p0, p1, _, pz⟩ := row2_cells hM
    have hMl := lt_of_cell2 hM
    have HMl := Lib.hid hMl
    have KL := Lib.hid (cloneCb_any f.A f.c f.l w2 (by omega) HFL.out.1)
    go_upto_region 6 with (go_at_call 91; refine KL.out.mono ?_; rintro e w3 ⟨v3, rfl, hO3, hb3⟩; obtain ⟨A3, c3, rfl, hform⟩ := own_form hO3 (fun x => rfl); have r1 := bel_cell hb3 p1; have rz := (hb3.frozen (p := ⟨M, 1, none⟩) hMl).trans pz)
    have hM3 := (hb3.block _ HMl.out).trans hM
    have hM4 := heap_setCell_same w3 M 1 _ cfT (.slice A3 f.l.length c3) hM3
    have HST : Hid (FSt w M R A3 c3 f f.l (w3.setCell ⟨M, 1, none⟩ (.slice A3 f.l.length c3))) := Lib.hid {
      m0 := (cell_of_row _ _ 0 _ _ (0, 0) hM4).trans rfl
      m1 := (cell_of_row _ _ 1 _ _ (0, 0) hM4).trans rfl
      r := by rw [heap_setCell_other _ _ _ _ (by have := HMR.out; show R ≠ M; omega)]; exact (hb3.block _ (lt_of_cell2 HN2.out)).trans HN2.out
      sam := rfl
      row := by
        rcases hform with h | ⟨g, rfl, hg1, hg2, hg3, hg4⟩
        · exact .inl h
        · have hgM : g ≠ M := by have := HMl.out; omega
          have hgR : g ≠ R := by have := HMR.out; have := HMl.out; omega
          refine .inr ⟨g, rfl, hgM, hgR, Nat.le_trans HB2.out.size hg1, ⟨fun i b j u hi hu => ?_, fun j => by rw [World.frozen?_setCell]; exact hg4 j, by simpa using hg2, fun b hb => ⟨?_, ?_⟩⟩⟩
          · rw [World.cell?_setCell_other _ _ _ _ (by intro e; simp only [Addr.mk.injEq] at e; exact hgM e.1.symm)]
            exact hg3 i b j u hi hu
          · refine RowL.other ((HFL.out.2 b hb).more hb3) ?_ _ _
            rcases HOR.out b hb with h | h
            · exact .inl h
            · exact .inr (fun g' o e => by have := h g' o e; have := HB1.out.size; have := HMR.out; have := HR.out; omega)
          · rcases HOR.out b hb with h | h
            · exact .inl h
            · exact .inr (fun g' o e => by have := h g' o e; have := HB2.out.size; omega)
      off := fun b hb => by
        rcases HOR.out b hb with h | h
        · exact .inl h
        · exact .inr (fun g' o e => by have := h g' o e; have := HR.out; omega)
      bel := (HB2.out.trans (hb3.mono HB2.out.size)).setCell (p := ⟨M, 1, none⟩) (by have := HMR.out; have := HR.out; show w.heap.size ≤ M; omega) _ }
    clear hform hO3 r1 rz hM3 hM4 hb3 p0 p1 pz hMl hM KL hbM
    generalize w3.setCell ⟨M, 1, none⟩ (.slice A3 f.l.length c3) = w4 at *
    have x1 := HST.out.m1
    obtain ⟨n, hn'⟩ : ∃ n, n = f.l.length := ⟨_, rfl⟩
    have HNN := Lib.hid hn'
    rw [← hn'] at hlen x1 ⊢
    clear hn'
    go_wp2
    clear x1
    go_loopw [26] (fun vi W => ∃ (k' : Nat) (L : List Cb), k' ≤ n ∧ vi = .int .i64 k' ∧ Hid (FSt w M R A3 c3 f L W)) (fun vi _ => n - (intOf vi).toNat)
    case atStart => exact ⟨0, _, Nat.zero_le _, rfl, HST⟩
    case round =>
      obtain ⟨k', L, hk', rfl, HL⟩ := hrel
      clear HST
      have HLn : Hid (L.length = n) := Lib.hid (by rw [HNN.out]; exact sam_len HL.out.sam)
      by_cases hlt : k' < n
      · obtain ⟨b, hb⟩ : ∃ b, L[k']? = some b := ⟨_, List.getElem?_eq_getElem (by have := HLn.out; omega)⟩
        have hrow := HL.out.row
        rcases hrow with h | ⟨G, rfl, hGM, hGR, hG, hrow⟩
        · exfalso; have := HLn.out; rw [h] at this; simp at this; omega
        have i3 : (k' : Int) < (n : Int) := by omega
        have x1 := HL.out.m1
        rw [← HNN.out] at x1
        have y3 := hrow.cell k' b 3 _ hb rfl
        have yz := hrow.froz (k' * 4 + 3)
        have hlb : b.l.length ≤ 30 := by
          obtain ⟨b0, hb0⟩ : ∃ b0, f.l[k']? = some b0 := ⟨_, List.getElem?_eq_getElem (by have := HNN.out; omega)⟩
          have he := sam_at HL.out.sam hb hb0
          have h1 := (HOF.out.cab b0 (List.mem_of_getElem? hb0)).len
          have h2 : b.l = b0.l := congrArg (fun p => p.2.2.2) he
          rw [h2]; exact h1
        have KC : Hid (∀ W, SW wr W → Calls Tryz.prog 92 #[.slice b.A b.l.length b.c] W fun e w' => ∃ A' c', e = .returned (.slice A' b.l.length c') ∧ (ClL w' (.slice A' b.l.length c') b.l ∧ (b.l = [] ∨ ∀ g o, A' = some ⟨g, o, none⟩ → wr.heap.size ≤ g)) ∧ SW wr w') := Lib.hid (fun W h => (cloneCl_any b.A b.c b.l W (by omega) ((hrow.cls b (List.mem_of_getElem? hb)).1.more h)).mono (by
          rintro e w' ⟨v', rfl, hO, hbb⟩
          obtain ⟨A', c', rfl, hf⟩ := own_form hO (fun x => rfl)
          refine ⟨A', c', rfl, ⟨hO.rowL (fun x => rfl), ?_⟩, Below.trans h (Below.mono hbb h.size)⟩
          rcases hf with hf | ⟨g, rfl, hg, _⟩
          · exact .inl hf
          · exact .inr (fun g' o e => by cases e; exact Nat.le_trans h.size hg)))
        have X1 := Lib.hid (fun W (h : SW wr W) => bel_get x1 _ h)
        have Y3 := Lib.hid (fun W (h : SW wr W) => bel_get y3 _ h)
        have YZ : Hid (∀ W, SW wr W → W.frozen? ⟨G, k' * 4 + 3, none⟩ = false) := Lib.hid (fun W h => (Below.frozen h (p := ⟨G, k' * 4 + 3, none⟩) hrow.lt).trans yz)
        have HROW := Lib.hid hrow
        have HBB := Lib.hid hb
        have hk8 : k' < 8 := by omega
        clear hb hrow
        go_upto_region 9 with fail
        go_region_with (go_at_call 92; refine (KC.out _ (SW.drew _)).mono ?_; rintro e w8 ⟨A8, c8, rfl, hA8, hS8⟩; have x8 := X1.out _ hS8; have y8 := Y3.out _ hS8; have z8 := YZ.out _ hS8)
        all_goals
          have HY : Hid (FSt w M R (some ⟨G, 0, none⟩) c3 f (L.set k' { b with A := A8, c := c8 }) (w8.setCell ⟨G, k' * 4 + 3, none⟩ (.slice A8 b.l.length c8))) := Lib.hid (HL.out.step hS8 hGM hGR hG HROW.out HBB.out hA8.1 hA8.2)
          clear x8 y8 z8 hA8 hS8
          go_wp2
          go_roundw
          case rel => exact ⟨k' + 1, _, by omega, by go_num, HY⟩
          case measure => simp [intOf]; omega
      · have hkn : ¬ (k' : Int) < (n : Int) := by omega
        have x0 := HL.out.m0
        have x1 := HL.out.m1
        rw [← HNN.out] at x1
        obtain ⟨n0, n1, m0, m1⟩ := row2_cells HL.out.r
        have hx := S2.heap HL.out.r (.string f.equip) (.slice A3 n c3)
        have hbt := S2.but wr R (.string f.equip) (.slice A3 n c3)
        have hbw : Below w.heap.size w ((wr.setCell ⟨R, 0, none⟩ (.string f.equip)).setCell ⟨R, 1, none⟩ (.slice A3 n c3)) := HL.out.bel.trans (hbt.below HL.out.bel.size (fun q hq => by have := HR.out; omega))
        have hcl : CbL wr (.slice A3 L.length c3) L := by
          rcases HL.out.row with h | ⟨G, h, _, _, _, hrow⟩
          · rw [h]; exact ⟨⟨_, _, rfl, .inl rfl⟩, fun b hb => by cases hb⟩
          · rw [h]; exact hrow.cbL c3
        have hAR : L = [] ∨ ∀ g o, A3 = some ⟨g, o, none⟩ → g ≠ R := by
          rcases HL.out.row with h | ⟨G, h, _, hGR, _, _⟩
          · exact .inl h
          · exact .inr (fun g o e => by rw [h] at e; cases e; exact hGR)
        have hAt : CfAt ((wr.setCell ⟨R, 0, none⟩ (.string f.equip)).setCell ⟨R, 1, none⟩ (.slice A3 n c3)) ⟨f.equip, A3, c3, L⟩ := (hcl.other hAR HL.out.off 0 _).other hAR HL.out.off 1 _
        have hSam : SamC ⟨f.equip, A3, c3, L⟩ f := ⟨rfl, HL.out.sam⟩
        obtain ⟨c0, c1, _, _⟩ := row2_cells hx
        have HX := Lib.hid (And.intro hAt (And.intro hSam hbw))
        clear hx hbt hbw hAt hcl hAR hSam HL
        go_wp2
        refine bodyPost_ret (v := .tuple #[.agg #[.string f.equip, .slice A3 n c3], .bool true]) ?_ rfl ⟨⟨⟨f.equip, A3, c3, L⟩, by rw [HFi.out, ← HLn.out]; rfl, HX.out.1, by rw [HFi.out]; exact HX.out.2.1⟩, HX.out.2.2⟩
        generalize (wr.setCell ⟨R, 0, none⟩ (.string f.equip)).setCell ⟨R, 1, none⟩ (.slice A3 n c3) = WW at c0 c1 ⊢
        simp [results, Tryz.results42, go_sem, c0, c1]
end Go.Proofs.YtkghpapbifijcaaGreatDoor
