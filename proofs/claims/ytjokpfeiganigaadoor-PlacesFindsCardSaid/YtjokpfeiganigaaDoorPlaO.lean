/- Walk of neighbours. -/
import Derived.Test.YtjokpfeiganigaaDoorPlaN
namespace Go.Proofs.YtjokpfeiganigaaDoor
open Go.RowKit Go.Shelf
set_option linter.unusedSimpArgs false
set_option linter.unusedVariables false

set_option maxRecDepth 100000 in
set_option maxHeartbeats 8000000 in
theorem neigh_any (A : Option Addr) (c : Nat) (ds : List Dst) (w : World) (hl : ds.length ≤ 60) (hL : DstL w A ds) (hok : ∀ d ∈ ds, OkD d) :
    Calls Tryd.prog 75 #[.slice A ds.length c] w fun e w' => ∃ b n V, e = .returned (.map (some b)) ∧ NM w' w.heap.size b n (edgs ds) V ∧ Below w.heap.size w w' := by
  have hmm := @run_makeMap Tryd.prog
  obtain ⟨i, hi, hz, hz1, hz2⟩ := info_parts info_stop
  have hN0 := NM.made w
  have hb0 := bel_alloc w (.map #[] 0)
  obtain ⟨lo, hlo⟩ : ∃ lo, lo = w.heap.size := ⟨_, rfl⟩
  rw [← hlo] at hN0 hb0 ⊢
  have HLO := Lib.hid hlo
  go_enter Tryd.func75, Tryd.ntmps75
  go_wp2
  rw [← hlo]
  generalize hw0 : w.alloc (.map #[] 0) = w0 at *
  clear hw0 hlo
  go_loopw [9] (fun vi wr => ∃ (k n : Nat) (V : ByteArray → Value), k ≤ ds.length ∧ vi = .int .i64 k ∧ n ≤ 2 * k ∧ Hid (NM wr lo lo n (edgs (ds.take k)) V) ∧ Below lo w wr) (fun vi _ => ds.length - (intOf vi).toNat)
  case atStart => exact ⟨0, 0, _, Nat.zero_le _, rfl, Nat.le_refl _, Lib.hid hN0, hb0⟩
  case round =>
    obtain ⟨k, n, V, hk, rfl, hn, HN, hb⟩ := hrel
    by_cases hlt : k < ds.length
    · obtain ⟨bb, off, d, rfl, hgl, hkd, hd⟩ := (hL.more (w' := wr) (by have h := hb; rwa [HLO.out] at h)).at hlt
      obtain ⟨z0, z1, z2⟩ := hd
      have i2 : (k : Int) < (ds.length : Int) := by omega
      obtain ⟨hfs, hts⟩ := hok d (List.mem_of_getElem? hkd)
      have hE : edgs (ds.take (k + 1)) = edgs (ds.take k) ++ edg d := by rw [List.take_add_one, hkd]; exact edgs_snoc _ _
      have hE120 : (edgs (ds.take k)).length ≤ 2 * k := Nat.le_trans (edgs_len _) (by rw [List.length_take]; omega)
      have hNlt := HN.out.lt
      have hBo : ∀ c, (V c).ownBlock ≠ some wr.heap.size := fun c h => by have := (HN.out.own c).lt _ h; omega
      obtain ⟨f, t, m⟩ := d
      dsimp only at z0 z1 z2 hfs hts
      have CU := Lib.hid (fun W => usable_any ⟨f, t, m⟩ W)
      have hbB := bel_alloc wr (.cells #[.string f, .string t, .int .i64 m] dstT)
      have q0 := cells_new wr #[.string f, .string t, .int .i64 m] dstT 0
      have q1 := cells_new wr #[.string f, .string t, .int .i64 m] dstT 1
      have q2 := cells_new wr #[.string f, .string t, .int .i64 m] dstT 2
      simp only [List.getElem?_toArray, List.getElem?_cons_zero, List.getElem?_cons_succ] at q0 q1 q2
      clear hL hkd hok
      cases hu : useB ⟨f, t, m⟩
      · rw [hu] at CU
        have HE := Lib.hid (show edgs (ds.take (k + 1)) = edgs (ds.take k) by rw [hE]; unfold edg; rw [hu]; simp)
        clear hu hE q0 q1 q2
        go_wp2_with (go_at_call 67; refine (CU.out _).mono ?_; rintro e w' ⟨rfl, hb'⟩)
        go_roundw
        case rel => exact ⟨k + 1, n, V, by omega, by go_num, by omega, Lib.hid (by rw [HE.out]; exact HN.out.more (hbB.trans (Below.mono hb' hbB.size))), hb.trans ((hbB.trans (Below.mono hb' hbB.size)).mono HN.out.hlo)⟩
        case measure => simp [intOf]; omega
      · rw [hu] at CU
        have hm := (useB_iff _).1 hu
        dsimp only at hm
        obtain ⟨mm, rfl⟩ : ∃ mm : Nat, m = (mm : Int) := ⟨m.toNat, by omega⟩
        have HE := Lib.hid (show edgs (ds.take (k + 1)) = edgs (ds.take k) ++ [(f, t, mm)] ++ [(t, f, mm)] by rw [hE]; unfold edg; rw [hu]; simp)
        clear hu hE
        obtain ⟨B, hB⟩ : ∃ B, B = wr.heap.size := ⟨_, rfl⟩
        have hBb : B ≠ lo := by omega
        have hBw : B < (wr.alloc (.cells #[.string f, .string t, .int .i64 (mm : Int)] dstT)).heap.size := by rw [World.size_alloc]; omega
        rw [← hB] at q0 q1 q2 hBo
        go_wp2_with (go_at_call 67; refine (CU.out _).mono ?_; rintro e w5 ⟨rfl, hb'⟩)
        have HN5 := Lib.hid (HN.out.more (hbB.trans (Below.mono hb' hbB.size)))
        have hb5 : Below lo w w5 := hb.trans ((hbB.trans (Below.mono hb' hbB.size)).mono HN.out.hlo)
        have hBlA : B < w5.heap.size := Nat.lt_of_lt_of_le hBw hb'.size
        have q0A := bel_cell hb' q0
        have q1A := bel_cell hb' q1
        have q2A := bel_cell hb' q2
        rw [← hB]
        have HBoA := Lib.hid hBo
        have HE120A : Hid ((edgs (ds.take k)).length ≤ 120) := Lib.hid (by omega)
        have HE120B : Hid ((edgs (ds.take k) ++ [(f, t, mm)]).length ≤ 120) := Lib.hid (by rw [List.length_append]; simp; omega)
        clear hBo hE120 q0 q1 q2 hbB hb' hB HN hb hNlt
        have ownA := (HN5.out).own f
        have lenA : (adj (edgs (ds.take k)) f).length ≤ 120 := by (have h1 := List.length_filter_le (fun e : Edg => decide (e.1 = f)) (edgs (ds.take k)); have h2 : (edgs (ds.take k)).length ≤ 120 := by exact HE120A.out); simp only [adj, List.length_map]; omega
        have HAA := Lib.hid (fun W w1 g cap' hW hown hgrow hloc => NM.app (W := W) (w1 := w1) (g := g) (cap' := cap') (HN5.out) f (t, mm) hfs (show n < 1000 by omega) hW hown hgrow hloc)
        have HOA : Hid (∀ W, Below w5.heap.size w5 W → W.ownsRow lo stopT 2 ((V) f) (adj (edgs (ds.take k)) f).length (cellsS (adj (edgs (ds.take k)) f))) := Lib.hid (fun W hW => own_more ownA hW)
        have HLOA : Hid (∀ W, Below w5.heap.size w5 W → lo ≤ W.heap.size) := Lib.hid (fun W hW => Nat.le_trans (HN5.out).hlo hW.size)
        have lk1A := ((HN5.out).more ((Below.refl _ w5).drew)).look f hfs
        have lk2A := ((HN5.out).more ((bel_alloc w5 (.cells #[.string t, .int .i64 (mm : Int)] stopT)).drew)).look f hfs
        clear ownA
        have HBvA : Hid (((V) f).ownBlock ≠ some B) := Lib.hid (HBoA.out f)
        generalize hvA : (V) f = vvA at HAA HOA lk1A lk2A HBvA
        generalize hnA : (adj (edgs (ds.take k)) f).length = nnA at HAA HOA lenA
        generalize hxA : cellsS (adj (edgs (ds.take k)) f) = xxA at HAA HOA
        have HVA := Lib.hid hvA
        clear hvA hnA hxA
        go_region_held3 (fun W => W.cell? ⟨B, 0, none⟩ = some (.string f) ∧ W.cell? ⟨B, 1, none⟩ = some (.string t) ∧ W.cell? ⟨B, 2, none⟩ = some (.int .i64 (mm : Int))) (first | exact ⟨by assumption, by assumption, by assumption⟩ | go_keep) ((refine step_append_lies _ rfl _ _ 119 rfl lo stopT i (.agg #[.string noB, .int .i64 0]) 2 24 Tryd.underlying119 hi hz hz1 hz2 rfl (by omega) vvA nnA xxA rfl (HOA.out _ (bel_alloc w5 _).drew) ⟨w5.heap.size, 0, none⟩ 1 1 [.string t, .int .i64 (mm : Int)] rfl rfl (World.news_of_block (cs := #[.string t, .int .i64 (mm : Int)]) (t := stopT) (fr := (0, 0)) (heap_alloc_new w5 _)) (by intro u hu; simp at hu; rcases hu with rfl | rfl <;> rfl) (by omega) (by unfold maxLen; omega) (by omega) (HLOA.out _ (bel_alloc w5 _).drew) _ rfl ?_; intro gA capA w1A hownA hgrowA hlocA hglA; obtain ⟨w2A, hrunA, hNA, hkpA, hblA, hszA, hsz1A, hgBA⟩ := HAA.out _ _ _ _ ((bel_alloc w5 (.cells #[.string t, .int .i64 (mm : Int)] stopT)).drew) hownA hgrowA hlocA; have hkBA := hkpA B hBlA hBb HBvA.out; have x1A := (World.cell?_of_block (a := ⟨B, 0, none⟩) hkBA.1).trans q0A; have x2A := (World.cell?_of_block (a := ⟨B, 1, none⟩) hkBA.1).trans q1A; have x3A := (World.cell?_of_block (a := ⟨B, 2, none⟩) hkBA.1).trans q2A; have y1A := (World.cell?_of_block (a := ⟨B, 0, none⟩) hkBA.2).trans q0A; have y2A := (World.cell?_of_block (a := ⟨B, 1, none⟩) hkBA.2).trans q1A; have y3A := (World.cell?_of_block (a := ⟨B, 2, none⟩) hkBA.2).trans q2A))
        all_goals
          have hx6 : ∃ V2, NM w2A lo lo (n + 1) (edgs (ds.take k) ++ [(f, t, mm)]) V2 ∧ ∀ c, (V2 c).ownBlock ≠ some B := ⟨_, hNA, fun c => by
            split
            · exact fun e => hgBA B hBlA HBvA.out (Option.some.inj e)
            · exact HBoA.out c⟩
          obtain ⟨V2, hN6, hBo6⟩ := hx6
          have HN6 := Lib.hid hN6
          have HBoB := Lib.hid hBo6
          have hb6 : Below lo w w2A := hb5.trans hblA
          clear hN6 hBo6
          have hBlB : B < w2A.heap.size := Nat.lt_of_lt_of_le hBlA hszA
          have q0B := y1A
          have q1B := y2A
          have q2B := y3A
          go_wp2
          clear hNA hblA hkpA hkBA x1A x2A x3A y1A y2A y3A q0A q1A q2A hrunA hownA hgrowA hlocA lk1A lk2A HAA HOA HLOA
          have ownB := (HN6.out).own t
          have lenB : (adj (edgs (ds.take k) ++ [(f, t, mm)]) t).length ≤ 120 := by (have h1 := List.length_filter_le (fun e : Edg => decide (e.1 = t)) (edgs (ds.take k) ++ [(f, t, mm)]); have h2 : (edgs (ds.take k) ++ [(f, t, mm)]).length ≤ 120 := by exact HE120B.out); simp only [adj, List.length_map]; omega
          have HAB := Lib.hid (fun W w1 g cap' hW hown hgrow hloc => NM.app (W := W) (w1 := w1) (g := g) (cap' := cap') (HN6.out) t (f, mm) hts (show n + 1 < 1000 by omega) hW hown hgrow hloc)
          have HOB : Hid (∀ W, Below w2A.heap.size w2A W → W.ownsRow lo stopT 2 (V2 t) (adj (edgs (ds.take k) ++ [(f, t, mm)]) t).length (cellsS (adj (edgs (ds.take k) ++ [(f, t, mm)]) t))) := Lib.hid (fun W hW => own_more ownB hW)
          have HLOB : Hid (∀ W, Below w2A.heap.size w2A W → lo ≤ W.heap.size) := Lib.hid (fun W hW => Nat.le_trans (HN6.out).hlo hW.size)
          have lk1B := ((HN6.out).more ((Below.refl _ w2A).drew)).look t hts
          have lk2B := ((HN6.out).more ((bel_alloc w2A (.cells #[.string f, .int .i64 (mm : Int)] stopT)).drew)).look t hts
          clear ownB
          have HBvB : Hid ((V2 t).ownBlock ≠ some B) := Lib.hid (HBoB.out t)
          generalize hvB : V2 t = vvB at HAB HOB lk1B lk2B HBvB
          generalize hnB : (adj (edgs (ds.take k) ++ [(f, t, mm)]) t).length = nnB at HAB HOB lenB
          generalize hxB : cellsS (adj (edgs (ds.take k) ++ [(f, t, mm)]) t) = xxB at HAB HOB
          have HVB := Lib.hid hvB
          clear hvB hnB hxB
          go_region_held3 (fun W => W.cell? ⟨B, 0, none⟩ = some (.string f) ∧ W.cell? ⟨B, 1, none⟩ = some (.string t) ∧ W.cell? ⟨B, 2, none⟩ = some (.int .i64 (mm : Int))) (first | exact ⟨by assumption, by assumption, by assumption⟩ | go_keep) ((refine step_append_lies _ rfl _ _ 119 rfl lo stopT i (.agg #[.string noB, .int .i64 0]) 2 24 Tryd.underlying119 hi hz hz1 hz2 rfl (by omega) vvB nnB xxB rfl (HOB.out _ (bel_alloc w2A _).drew) ⟨w2A.heap.size, 0, none⟩ 1 1 [.string f, .int .i64 (mm : Int)] rfl rfl (World.news_of_block (cs := #[.string f, .int .i64 (mm : Int)]) (t := stopT) (fr := (0, 0)) (heap_alloc_new w2A _)) (by intro u hu; simp at hu; rcases hu with rfl | rfl <;> rfl) (by omega) (by unfold maxLen; omega) (by omega) (HLOB.out _ (bel_alloc w2A _).drew) _ rfl ?_; intro gB capB w1B hownB hgrowB hlocB hglB; obtain ⟨w2B, hrunB, hNB, hkpB, hblB, hszB, hsz1B, hgBB⟩ := HAB.out _ _ _ _ ((bel_alloc w2A (.cells #[.string f, .int .i64 (mm : Int)] stopT)).drew) hownB hgrowB hlocB; have hkBB := hkpB B hBlB hBb HBvB.out; have x1B := (World.cell?_of_block (a := ⟨B, 0, none⟩) hkBB.1).trans q0B; have x2B := (World.cell?_of_block (a := ⟨B, 1, none⟩) hkBB.1).trans q1B; have x3B := (World.cell?_of_block (a := ⟨B, 2, none⟩) hkBB.1).trans q2B; have y1B := (World.cell?_of_block (a := ⟨B, 0, none⟩) hkBB.2).trans q0B; have y2B := (World.cell?_of_block (a := ⟨B, 1, none⟩) hkBB.2).trans q1B; have y3B := (World.cell?_of_block (a := ⟨B, 2, none⟩) hkBB.2).trans q2B))
          all_goals
            have HN7 := Lib.hid hNB
            have hb7 : Below lo w w2B := hb6.trans hblB
            clear hNB hblB hkpB hkBB x1B x2B x3B y1B y2B y3B q0B q1B q2B hrunB hownB hgrowB hlocB lk1B lk2B HAB HOB HLOB
            go_wp2
            go_roundw
            case rel => exact ⟨k + 1, n + 1 + 1, _, by omega, by go_num, by omega, Lib.hid (by rw [HE.out]; exact HN7.out), hb7⟩
            case measure => simp [intOf]; omega
    · have e : ds.take k = ds := List.take_of_length_le (by omega)
      go_wp2
      go_ret
      exact ⟨lo, n, V, rfl, by have := HN.out; rwa [e] at this, hb⟩

end Go.Proofs.YtjokpfeiganigaaDoor
