/- Counts. -/
import Derived.Test.YtkghpapbifijcaaGreatDoorStkF
import Derived.BigQuiet
namespace Go.Proofs.YtkghpapbifijcaaGreatDoor
open Go.RowKit Go.Shelf Go.Maps Go.MapKept
set_option linter.unusedSimpArgs false
set_option linter.unusedVariables false

abbrev cntT : TypeId := 78
def encN' (x : ByteArray × Int) : List Value := [.string x.1, .int .i64 x.2]
abbrev CntL (w : World) (v : Value) (l : List (ByteArray × Int)) : Prop := RowL 2 encN' w v l
theorem rowN : RT Tryz.prog 55 cntT 2 encN' where
  ht := Tryz.underlying55
  info := ⟨.agg #[.string noB, .int .i64 0], 24, by kernel_rfl, rfl, by omega⟩
  len x := rfl
  one x u hu := by simp [encN'] at hu; rcases hu with rfl | rfl <;> rfl
  pos := by omega
theorem cntC_succ {l : List Cl} {s : List Int} {k : Nat} {x : Cl} {y : Int} (hx : l[k]? = some x) (hy : s[k]? = some y) : cntC (l.take (k + 1)) (s.take (k + 1)) = cntC (l.take k) (s.take k) ++ [(x.code, y)] := by
  unfold cntC
  have h1 := (List.getElem?_eq_some_iff.1 hx).1
  have h2 := (List.getElem?_eq_some_iff.1 hy).1
  rw [List.take_add_one, List.take_add_one, hx, hy, List.zip_append (by rw [List.length_take, List.length_take]; omega), List.map_append]
  rfl
theorem cntB_succ {l : List Cb} {so : List (List Int)} {k : Nat} {b : Cb} {s : List Int} (hx : l[k]? = some b) (hy : so[k]? = some s) : cntB (l.take (k + 1)) (so.take (k + 1)) = cntB (l.take k) (so.take k) ++ cntC b.l s := by
  unfold cntB
  have h1 := (List.getElem?_eq_some_iff.1 hx).1
  have h2 := (List.getElem?_eq_some_iff.1 hy).1
  rw [List.take_add_one, List.take_add_one, hx, hy, List.zip_append (by rw [List.length_take, List.length_take]; omega), List.flatMap_append]
  simp
theorem cntC_len (l : List Cl) (s : List Int) : (cntC l s).length ≤ l.length := by
  unfold cntC
  rw [List.length_map, List.length_zip]
  omega
theorem cntB_le : ∀ (l : List Cb) (so : List (List Int)), (∀ b ∈ l, b.l.length ≤ 30) → (cntB l so).length ≤ 30 * l.length
  | [], so, _ => by simp [cntB]
  | b :: r, [], _ => by simp [cntB]
  | b :: r, s :: t, h => by
    have ih := cntB_le r t (fun b hb => h b (by simp [hb]))
    have h1 := cntC_len b.l s
    have h2 := h b (by simp)
    unfold cntB at ih ⊢
    simp only [List.zip_cons_cons, List.flatMap_cons, List.length_append, List.length_cons]
    omega
theorem cl_new (w : World) (x : Cl) : (w.alloc (.cells #[.string x.code, .int .i64 x.prot] clT)).cell? ⟨w.heap.size, 0, none⟩ = some (.string x.code) ∧ (w.alloc (.cells #[.string x.code, .int .i64 x.prot] clT)).cell? ⟨w.heap.size, 1, none⟩ = some (.int .i64 x.prot) :=
  ⟨(cells_new w _ clT 0).trans rfl, (cells_new w _ clT 1).trans rfl⟩
set_option maxRecDepth 100000 in
set_option maxHeartbeats 2000000 in
theorem counts_none (R : Nat → Prop) (o : Own') (B n : Nat) (cs : List Cf) (g : Stk) (K : Int) (i : Lid) (w : World) (hS : StkAt w R o B n cs g) (hi : OkD i) (hq : g i = none) :
    Calls Tryz.prog 26 #[.pointer (some ⟨B, 0, none⟩), aggD i] w fun e w' => e = .returned (.slice none 0 0) ∧ Below w.heap.size w w' := by
  have hbA := bel_alloc w (.cells #[.string i.car, .int .i64 i.num, .int .i64 i.day, .string i.frm] lidT)
  have hS' := hS.more hbA
  obtain ⟨l0, l1, l2, l3⟩ := lid_new w i
  have HS := Lib.hid hS'
  have K1 : Hid (∀ W, StkAt W R o B n cs g → Calls Tryz.prog 56 #[.pointer (some ⟨B, 0, none⟩), aggD i] W fun e w' => e = .returned (.pointer none) ∧ Below W.heap.size W w') := Lib.hid (fun W h => (lfind_any R o B n cs g i W h hi).mono (by
    rintro e w' ⟨⟨p, rfl, hp⟩, hb⟩
    rw [hq] at hp
    obtain rfl := hp
    exact ⟨rfl, hb⟩))
  clear hS hS' hq
  go_enter Tryz.func26, Tryz.ntmps26
  go_upto_region 1 with fail
  generalize w.alloc (.cells #[.string i.car, .int .i64 i.num, .int .i64 i.day, .string i.frm] lidT) = w5 at *
  go_wp2_with (go_at_call 56; refine (K1.out _ HS.out).mono ?_; rintro e w6 ⟨rfl, hb6⟩)
  go_ret
  exact ⟨rfl, hbA.trans (hb6.mono hbA.size)⟩
set_option maxRecDepth 100000 in
set_option maxHeartbeats 16000000 in
theorem counts_some (R : Nat → Prop) (o : Own') (B n : Nat) (cs : List Cf) (g : Stk) (K : Int) (i : Lid) (q : Lg) (w : World) (hS : StkAt w R o B n cs g) (hG : OkG K cs g) (hi : OkD i) (hq : g i = some q) :
    Calls Tryz.prog 26 #[.pointer (some ⟨B, 0, none⟩), aggD i] w fun e w' => ∃ v, e = .returned v ∧ ROwn cntT 2 encN' w.heap.size w' v q.counts ∧ Below w.heap.size w w' := by
  have hbA := bel_alloc w (.cells #[.string i.car, .int .i64 i.num, .int .i64 i.day, .string i.frm] lidT)
  have hS' := hS.more hbA
  obtain ⟨l0, l1, l2, l3⟩ := lid_new w i
  have HS := Lib.hid hS'
  obtain ⟨hL, hf⟩ := hG.leg i q hq
  have hL0 := Lib.hid hL
  have K1 : Hid (∀ W, StkAt W R o B n cs g → Calls Tryz.prog 56 #[.pointer (some ⟨B, 0, none⟩), aggD i] W fun e w' => ∃ a, e = .returned (.pointer (some ⟨a, 0, none⟩)) ∧ LegAt w' o i a q ∧ CfAt w' q.f ∧ Below W.heap.size W w') := Lib.hid (fun W h => (lfind_any R o B n cs g i W h hi).mono (by
    rintro e w' ⟨⟨p, rfl, hp⟩, hb⟩
    rw [hq] at hp
    obtain ⟨a, rfl, ha⟩ := hp
    exact ⟨a, rfl, ha, (h.more hb).cfAt hf, hb⟩))
  clear hS hS' hq hL
  go_enter Tryz.func26, Tryz.ntmps26
  go_upto_region 1 with fail
  generalize w.alloc (.cells #[.string i.car, .int .i64 i.num, .int .i64 i.day, .string i.frm] lidT) = w5 at *
  go_upto_region 2 with (go_at_call 56; refine (K1.out _ HS.out).mono ?_; rintro e w6 ⟨a, rfl, ha, hcf, hb6⟩)
  have hb06 := hbA.trans (hb6.mono hbA.size)
  have d1 := ha.c1
  have HAL : Hid (a < w6.heap.size) := Lib.hid ha.lt
  obtain ⟨sb, sc, d2, hsb, hrows⟩ := ha.rows
  have D2 := Lib.hid d2
  have HRS := Lib.hid hrows
  have HCF := Lib.hid hcf
  have HSB := Lib.hid hsb
  clear ha hrows hcf d2 hsb
  obtain ⟨m, hm⟩ : ∃ m, m = q.f.l.length := ⟨_, rfl⟩
  have HM := Lib.hid hm
  rw [← hm] at d1
  clear hm
  obtain ⟨sl, hsl⟩ : ∃ sl, sl = q.so.length := ⟨_, rfl⟩
  have HSL := Lib.hid hsl
  rw [← hsl] at D2
  clear hsl
  have HLE : Hid (∀ k j b s, q.f.l[k]? = some b → (cntB (q.f.l.take k) (q.so.take k) ++ cntC (b.l.take j) s).length ≤ 100000000) := Lib.hid (fun k j b s hb => by
    have h1 := cntB_le (q.f.l.take k) (q.so.take k) (fun b hb => hL0.out.small.2 b (List.mem_of_mem_take hb))
    have h2 := cntC_len (b.l.take j) s
    have h3 := hL0.out.small.1
    have h4 := hL0.out.small.2 b (List.mem_of_getElem? hb)
    have h5 : (q.f.l.take k).length ≤ q.f.l.length := by rw [List.length_take]; omega
    have h6 : (b.l.take j).length ≤ b.l.length := by rw [List.length_take]; omega
    rw [List.length_append]
    omega)
  go_wp2
  clear d1
  go_loopw [22, 6] (fun vi vn wr => ∃ (k : Nat) (v : Value), k ≤ m ∧ vi = .int .i64 k ∧ v = vn ∧ Hid (ROwn cntT 2 encN' w6.heap.size wr v (cntB (q.f.l.take k) (q.so.take k)) ∧ SW w6 wr)) (fun vi _ _ => m - (intOf vi).toNat)
  case atStart => exact ⟨0, _, Nat.zero_le _, rfl, rfl, Lib.hid ⟨ROwn.nil (Nat.le_refl _), Below.refl _ _⟩⟩
  case round =>
    obtain ⟨k, v, hk, rfl, rfl, HH⟩ := hrel
    by_cases hlt : k < m
    · obtain ⟨b, hb⟩ : ∃ b, q.f.l[k]? = some b := ⟨_, List.getElem?_eq_getElem (by have := HM.out; omega)⟩
      obtain ⟨s, hs⟩ : ∃ s, q.so[k]? = some s := ⟨_, List.getElem?_eq_getElem (by have := HM.out; have := hL0.out.len; omega)⟩
      have hsb := hL0.out.each k b s hb hs
      have hSr : SW w6 wr := HH.out.2
      have hcr := CfAt.more HCF.out hSr
      obtain ⟨gg, oo, hA, k0, k1, k2, k3⟩ := cab_cells hcr hb
      obtain ⟨r, rc, d3, hrow⟩ := HRS.out k s hs
      have hrlt := hrow.lt
      have HROW := Lib.hid hrow
      have j2 : (k : Int) < (m : Int) := by omega
      have hk30 : k < 100 := by have := HM.out; have := hL0.out.small.1; omega
      have j3 : (k : Int) < (sl : Int) := by have := HM.out; have := HSL.out; have := hL0.out.len; omega
      have j1 : (0 : Int) ≤ (k : Int) := by omega
      rw [Nat.add_zero] at k0
      rw [hA]
      have HE := Lib.hid (cntB_succ hb hs)
      have HCB : CbAt wr b := hcr.2 b (List.mem_of_getElem? hb)
      have HBL := Lib.hid (fun j => HLE.out k j b (s.take j) hb)
      have hbB := bel_alloc wr (.cells #[.string b.name, .int .i64 b.seats, .int .i64 b.over, .slice b.A b.l.length b.c] cbT)
      obtain ⟨m0, m1, m2, m3⟩ := cb_new wr b
      have hSr2 := Below.trans hSr (Below.mono hbB hSr.size)
      have HO8 := Lib.hid (HH.out.1.more hbB)
      have HCB6 : Hid (CbAt w6 b) := Lib.hid (HCF.out.2 b (List.mem_of_getElem? hb))
      have HSL2 : Hid (s.length = b.l.length) := Lib.hid hsb
      have HB30 : Hid (b.l.length ≤ 30) := Lib.hid (hL0.out.small.2 b (List.mem_of_getElem? hb))
      clear hb hs hcr hrow HCB HH hsb
      generalize cntB (q.f.l.take k) (q.so.take k) = L0 at *
      go_upto_region 8 with fail
      clear k0 k1 k2 k3
      generalize wr.alloc (.cells #[.string b.name, .int .i64 b.seats, .int .i64 b.over, .slice b.A b.l.length b.c] cbT) = w8 at *
      go_wp2
      clear m0 m1 m2 m3
      go_loopw [30, 6] (fun vi vn wi => ∃ (j : Nat) (v : Value), j ≤ b.l.length ∧ vi = .int .i64 j ∧ v = vn ∧ Hid (ROwn cntT 2 encN' w6.heap.size wi vn (L0 ++ cntC (b.l.take j) (s.take j)) ∧ SW w6 wi)) (fun vi _ _ => b.l.length - (intOf vi).toNat)
      case atStart => exact ⟨0, _, Nat.zero_le _, rfl, rfl, Lib.hid ⟨by simpa [cntC] using HO8.out, hSr2⟩⟩
      case round =>
        obtain ⟨j, v, hj, rfl, rfl, HI⟩ := hrel
        by_cases hjlt : j < b.l.length
        · obtain ⟨x, hx⟩ : ∃ x, b.l[j]? = some x := ⟨_, List.getElem?_eq_getElem hjlt⟩
          obtain ⟨y, hy⟩ : ∃ y, s[j]? = some y := ⟨_, List.getElem?_eq_getElem (by rw [HSL2.out]; exact hjlt)⟩
          have hSi : SW w6 wr := HI.out.2
          obtain ⟨cg, co, eA, _, hcc⟩ := row_get (CbAt.more HCB6.out hSi) hx
          have y0 := hcc 0 _ rfl
          have y1 := hcc 1 _ rfl
          rw [Nat.add_zero] at y0
          rw [eA]
          have HE2 := Lib.hid (cntC_succ hx hy)
          have hO := HI.out.1
          have HLn : Hid ((L0 ++ cntC (b.l.take j) (s.take j)).length ≤ 100000000) := Lib.hid (HBL.out j)
          have HLO : Hid (∀ gq, v.ownBlock = some gq → w6.heap.size ≤ gq ∧ gq < wr.heap.size) := Lib.hid (fun gq hg => hO.low hg)
          have hnN : v.ownBlock ≠ some wr.heap.size := fun h => by have := (HLO.out _ h).2; omega
          have hnA : v.ownBlock ≠ some a := fun h => by have := (HLO.out _ h).1; have := HAL.out; omega
          have hnS : v.ownBlock ≠ some sb := fun h => by have := (HLO.out _ h).1; have := HSB.out; omega
          have hnR : v.ownBlock ≠ some r := fun h => by have := (HLO.out _ h).1; omega
          have hb9 := bel_alloc wr (.cells #[.string x.code, .int .i64 x.prot] clT)
          have hS9 := Below.trans hSi (Below.mono hb9 hSi.size)
          have f0 : ∀ W, SX (wr.alloc (.cells #[.string x.code, .int .i64 x.prot] clT)) v W → W.cell? ⟨wr.heap.size, 0, none⟩ = some (.string x.code) := fun W h => SX.cell (cl_new wr x).1 hnN h
          have f1 : ∀ W, SX (wr.alloc (.cells #[.string x.code, .int .i64 x.prot] clT)) v W → W.cell? ⟨a, 2, none⟩ = some (.slice (some ⟨sb, 0, none⟩) sl sc) := fun W h => SX.cell (bel_cell hS9 D2.out) hnA h
          have f2 : ∀ W, SX (wr.alloc (.cells #[.string x.code, .int .i64 x.prot] clT)) v W → W.cell? ⟨sb, k, none⟩ = some (.slice (some ⟨r, 0, none⟩) s.length rc) := fun W h => SX.cell (bel_cell hS9 d3) hnS h
          have f3 : ∀ W, SX (wr.alloc (.cells #[.string x.code, .int .i64 x.prot] clT)) v W → W.cell? ⟨r, j, none⟩ = some (.int .i64 y) := fun W h => SX.cell (bel_cell hS9 (HROW.out.at hy)) hnR h
          have HSW : Hid (∀ W, SX (wr.alloc (.cells #[.string x.code, .int .i64 x.prot] clT)) v W → SW w6 W) := Lib.hid (fun W h => Below.trans hS9 (h.below (Nat.le_trans hSi.size hb9.size) (fun k' hk' hv => by have := (HLO.out _ hv).1; omega)))
          have hO := hO.more (hb9.trans ((Below.refl _ (wr.alloc (.cells #[.string x.code, .int .i64 x.prot] clT))).drew.mono hb9.size))
          have j5 : (j : Int) < (b.l.length : Int) := by omega
          have j6 : (j : Int) < (s.length : Int) := by rw [HSL2.out]; omega
          have j7 : (0 : Int) ≤ (j : Int) := by omega
          have hj30 : j < 100 := by have := HB30.out; omega
          clear hx hy hcc HI hnN hnA hnS hnR HLO hS9 hSi
          generalize cntC (b.l.take j) (s.take j) = L1 at *
          go_upto_region 11 with fail
          clear y0 y1
          generalize wr.alloc (.cells #[.string x.code, .int .i64 x.prot] clT) = w9 at *
          have hS : (SX w9 v) _ := But.of_below (Below.refl _ _).drew
          refine wp_region_held_drew (S := SX w9 v) (by kernel_rfl) hS (fun _ => ?_)
          refine wpAnyH_take (i := 0) (v := ?vN0) rfl (by kernel_rfl) (by kernel_rfl) (by kernel_rfl) (fun _ _ _ h => h) (Or.inl ⟨by rfl, ?hyN0⟩) hS ?restN0
          case hyN0 =>
            intro w hSw
            first | (go_simp; done) | (go_simp; with_reducible rfl)
          try simp only [Act.put, List.setIfInBounds_toArray, List.set_cons_zero, List.set_cons_succ]
          refine wpAnyH_take (i := 1) (v := ?vN1) rfl (by kernel_rfl) (by kernel_rfl) (by kernel_rfl) (fun _ _ _ h => h) (Or.inl ⟨by rfl, ?hyN1⟩) hS ?restN1
          case hyN1 =>
            intro w hSw
            first | (go_simp; done) | (go_simp; with_reducible rfl)
          try simp only [Act.put, List.setIfInBounds_toArray, List.set_cons_zero, List.set_cons_succ]
          refine wpAnyH_take (i := 2) (v := ?vN2) rfl (by kernel_rfl) (by kernel_rfl) (by kernel_rfl) (fun _ _ _ h => h) (Or.inl ⟨by rfl, ?hyN2⟩) hS ?restN2
          case hyN2 =>
            intro w hSw
            have k0 := f0 w hSw; have k1 := f1 w hSw; have k2 := f2 w hSw; have k3 := f3 w hSw
            first | (go_simp; done) | (go_simp; with_reducible rfl)
          try simp only [Act.put, List.setIfInBounds_toArray, List.set_cons_zero, List.set_cons_succ]
          refine wpAnyH_take (i := 3) (v := ?vN3) rfl (by kernel_rfl) (by kernel_rfl) (by kernel_rfl) (fun _ _ _ h => h) (Or.inl ⟨by rfl, ?hyN3⟩) hS ?restN3
          case hyN3 =>
            intro w hSw
            first | (go_simp; done) | (go_simp; with_reducible rfl)
          try simp only [Act.put, List.setIfInBounds_toArray, List.set_cons_zero, List.set_cons_succ]
          refine wpAnyH_take (i := 4) (v := ?vN4) rfl (by kernel_rfl) (by kernel_rfl) (by kernel_rfl) (fun _ _ _ h => h) (Or.inl ⟨by rfl, ?hyN4⟩) hS ?restN4
          case hyN4 =>
            intro w hSw
            first | (go_simp; done) | (go_simp; with_reducible rfl)
          try simp only [Act.put, List.setIfInBounds_toArray, List.set_cons_zero, List.set_cons_succ]
          refine wpAnyH_take (i := 5) (v := ?vN5) rfl (by kernel_rfl) (by kernel_rfl) (by kernel_rfl) (fun _ _ _ h => h) (Or.inl ⟨by rfl, ?hyN5⟩) hS ?restN5
          case hyN5 =>
            intro w hSw
            first | (go_simp; done) | (go_simp; with_reducible rfl)
          try simp only [Act.put, List.setIfInBounds_toArray, List.set_cons_zero, List.set_cons_succ]
          refine wpAnyH_take (i := 6) (v := ?vN6) rfl (by kernel_rfl) (by kernel_rfl) (by kernel_rfl) (fun _ _ _ h => h) (Or.inl ⟨by rfl, ?hyN6⟩) hS ?restN6
          case hyN6 =>
            intro w hSw
            have k0 := f0 w hSw; have k1 := f1 w hSw; have k2 := f2 w hSw; have k3 := f3 w hSw
            first | (go_simp; done) | (go_simp; with_reducible rfl)
          try simp only [Act.put, List.setIfInBounds_toArray, List.set_cons_zero, List.set_cons_succ]
          refine wpAnyH_take (i := 7) (v := ?vN7) rfl (by kernel_rfl) (by kernel_rfl) (by kernel_rfl) (fun _ _ _ h => h) (Or.inl ⟨by rfl, ?hyN7⟩) hS ?restN7
          case hyN7 =>
            intro w hSw
            first | (go_simp; done) | (go_simp; with_reducible rfl)
          try simp only [Act.put, List.setIfInBounds_toArray, List.set_cons_zero, List.set_cons_succ]
          refine wpAnyH_take (i := 8) (v := ?vN8) rfl (by kernel_rfl) (by kernel_rfl) (by kernel_rfl) (fun _ _ _ h => h) (Or.inl ⟨by rfl, ?hyN8⟩) hS ?restN8
          case hyN8 =>
            intro w hSw
            have k0 := f0 w hSw; have k1 := f1 w hSw; have k2 := f2 w hSw; have k3 := f3 w hSw
            first | (go_simp; done) | (go_simp; with_reducible rfl)
          try simp only [Act.put, List.setIfInBounds_toArray, List.set_cons_zero, List.set_cons_succ]
          refine wpAnyH_take (i := 9) (v := ?vN9) rfl (by kernel_rfl) (by kernel_rfl) (by kernel_rfl) (fun _ _ _ h => h) (Or.inl ⟨by rfl, ?hyN9⟩) hS ?restN9
          case hyN9 =>
            intro w hSw
            have k0 := f0 w hSw; have k1 := f1 w hSw; have k2 := f2 w hSw; have k3 := f3 w hSw
            first | (go_simp; done) | (go_simp; with_reducible rfl)
          try simp only [Act.put, List.setIfInBounds_toArray, List.set_cons_zero, List.set_cons_succ]
          refine wpAnyH_take (i := 10) (v := ?vN10) rfl (by kernel_rfl) (by kernel_rfl) (by kernel_rfl) (fun _ _ _ h => h) (Or.inl ⟨by rfl, ?hyN10⟩) hS ?restN10
          case hyN10 =>
            intro w hSw
            first | (go_simp; done) | (go_simp; with_reducible rfl)
          try simp only [Act.put, List.setIfInBounds_toArray, List.set_cons_zero, List.set_cons_succ]
          refine wpAnyH_take (i := 11) (v := ?vN11) rfl (by kernel_rfl) (by kernel_rfl) (by kernel_rfl) (fun _ _ _ h => h) (Or.inl ⟨by rfl, ?hyN11⟩) hS ?restN11
          case hyN11 =>
            intro w hSw
            have k0 := f0 w hSw; have k1 := f1 w hSw; have k2 := f2 w hSw; have k3 := f3 w hSw
            first | (go_simp; done) | (go_simp; with_reducible rfl)
          try simp only [Act.put, List.setIfInBounds_toArray, List.set_cons_zero, List.set_cons_succ]
          refine wpAnyH_take (i := 12) (v := ?vN12) rfl (by kernel_rfl) (by kernel_rfl) (by kernel_rfl) (fun _ _ _ h => h) (Or.inl ⟨by rfl, ?hyN12⟩) hS ?restN12
          case hyN12 =>
            intro w hSw
            have k0 := f0 w hSw; have k1 := f1 w hSw; have k2 := f2 w hSw; have k3 := f3 w hSw
            first | (go_simp; done) | (go_simp; with_reducible rfl)
          try simp only [Act.put, List.setIfInBounds_toArray, List.set_cons_zero, List.set_cons_succ]
          refine wpAnyH_take (i := 13) (v := ?vN13) rfl (by kernel_rfl) (by kernel_rfl) (by kernel_rfl) (fun _ _ _ h => h) (Or.inl ⟨by rfl, ?hyN13⟩) hS ?restN13
          case hyN13 =>
            intro w hSw
            first | (go_simp; done) | (go_simp; with_reducible rfl)
          try simp only [Act.put, List.setIfInBounds_toArray, List.set_cons_zero, List.set_cons_succ]
          refine wpAnyH_ready (rs := [14]) (by kernel_rfl) (by simp) ?_
          refine AllReadyH.cons rfl (fun K hK => ?_) AllReadyH.nil
          go_simp
          have hSp := hS
          have hS := hS.on (bel_alloc _ (.cells #[.string x.code, .int .i64 y] cntT))
          refine hK.out _ _ hS (fun _ => ?_)
          clear hK K
          refine wpAnyH_ready (rs := [15]) (by kernel_rfl) (by simp) ?_
          refine AllReadyH.cons rfl (fun K hK => ?_) AllReadyH.nil
          refine step_rapp rowN rfl _ _ rfl hO rfl (bel_alloc _ _) _ (x.code, y) _ rfl (cs := #[.string x.code, .int .i64 y]) rfl (heap_alloc_new _ _) HLn.out ?_
          intro v10 w10 hO10 hC10
          go_simp
          have hS := hSp.trans hC10.but (fun _ _ h => h)
          refine hK.out _ _ hS (fun _ => ?_)
          clear hK K
          refine wpAnyH_take (i := 16) (v := ?vN16) rfl (by kernel_rfl) (by kernel_rfl) (by kernel_rfl) (fun _ _ _ h => h) (Or.inl ⟨by rfl, ?hyN16⟩) hS ?restN16
          case hyN16 =>
            intro w hSw
            first | (go_simp; done) | (go_simp; with_reducible rfl)
          try simp only [Act.put, List.setIfInBounds_toArray, List.set_cons_zero, List.set_cons_succ]
          refine wpAnyH_done (by kernel_rfl) ?_ _
          try simp only [List.getElem_toArray, List.getElem_cons_succ, List.getElem_cons_zero, List.set_cons_zero, List.set_cons_succ]
          have HY : Hid (ROwn cntT 2 encN' w6.heap.size w10 v10 (L0 ++ cntC (b.l.take (j + 1)) (s.take (j + 1))) ∧ SW w6 w10) := Lib.hid ⟨by rw [HE2.out, ← List.append_assoc]; exact hO10, HSW.out _ hS⟩
          clear hO10 hC10 hS hSp hO
          go_wp2
          go_roundw
          case rel => exact ⟨j + 1, _, by omega, by go_num, rfl, HY⟩
          case measure => simp [intOf]; omega
        · obtain rfl : j = b.l.length := by omega
          have HJ : Hid (ROwn cntT 2 encN' w6.heap.size wr v (cntB (q.f.l.take (k + 1)) (q.so.take (k + 1))) ∧ SW w6 wr) := Lib.hid (by
            rw [HE.out]
            have h := HI.out
            rw [List.take_length, List.take_of_length_le (by rw [HSL2.out]; exact Nat.le_refl _)] at h
            exact h)
          clear HI
          go_wp2
          go_roundw
          case rel => exact ⟨k + 1, _, by omega, by go_num, rfl, HJ⟩
          case measure => simp [intOf]; omega
    · obtain rfl : k = m := by omega
      have HJ : Hid (ROwn cntT 2 encN' w6.heap.size wr v q.counts ∧ SW w6 wr) := Lib.hid (by
        have h := HH.out
        rw [HM.out, List.take_length, List.take_of_length_le (by rw [hL0.out.len]; exact Nat.le_refl _)] at h
        exact h)
      clear HH
      go_wp2
      go_ret
      exact ⟨_, rfl, ⟨HJ.out.1.own.mono hb06.size, Nat.le_trans hb06.size HJ.out.2.size⟩, hb06.trans (Below.mono HJ.out.2 hb06.size)⟩
def cntG (g : Stk) (i : Lid) : List (ByteArray × Int) := match g i with
  | some q => q.counts
  | none => []
theorem counts_any (R : Nat → Prop) (o : Own') (B n : Nat) (cs : List Cf) (g : Stk) (K : Int) (i : Lid) (w : World) (hS : StkAt w R o B n cs g) (hG : OkG K cs g) (hi : OkD i) :
    Calls Tryz.prog 26 #[.pointer (some ⟨B, 0, none⟩), aggD i] w fun e w' => ∃ v, e = .returned v ∧ CntL w' v (cntG g i) ∧ Below w.heap.size w w' := by
  unfold cntG
  cases hq : g i with
  | none => exact (counts_none R o B n cs g K i w hS hi hq).mono (by rintro e w' ⟨rfl, hb⟩; exact ⟨_, rfl, ⟨none, 0, rfl, .inl rfl⟩, hb⟩)
  | some q => exact (counts_some R o B n cs g K i q w hS hG hi hq).mono (by rintro e w' ⟨v, rfl, h, hb⟩; exact ⟨v, rfl, h.rowL rowN.len, hb⟩)
end Go.Proofs.YtkghpapbifijcaaGreatDoor
