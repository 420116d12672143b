/- Words and walks that the laws below ask: StkG, StkK, StkL, StkM. -/
import Derived.BigQuiet
import Derived.Test.YtjmahmeionakaaaGreatDoorPk13
import Derived.Test.YtjmahmeionakaaaGreatDoorPk14
/- Counts. -/
namespace Go.Proofs.YtjmahmeionakaaaGreatDoor
open Go.RowKit Go.Shelf Go.Maps Go.MapKept
set_option linter.unusedSimpArgs false
set_option linter.unusedVariables false

abbrev cntT : TypeId := 78
def encN' (x : ByteArray × Int) : List Value := [.string x.1, .int .i64 x.2]
abbrev CntL (w : World) (v : Value) (l : List (ByteArray × Int)) : Prop := RowL 2 encN' w v l
theorem rowN : RT Tryz.prog 55 cntT 2 encN' where
  ht := Tryz.underlying55
  info := ⟨.agg #[.string noB, .int .i64 0], 24, by kernel_rfl, rfl, by omega⟩
  len x := rfl
  one x u hu := by simp [encN'] at hu; rcases hu with rfl | rfl <;> rfl
  pos := by omega
theorem cntC_succ {l : List Cl} {s : List Int} {k : Nat} {x : Cl} {y : Int} (hx : l[k]? = some x) (hy : s[k]? = some y) : cntC (l.take (k + 1)) (s.take (k + 1)) = cntC (l.take k) (s.take k) ++ [(x.code, y)] := by
  unfold cntC
  have h1 := (List.getElem?_eq_some_iff.1 hx).1
  have h2 := (List.getElem?_eq_some_iff.1 hy).1
  rw [List.take_add_one, List.take_add_one, hx, hy, List.zip_append (by rw [List.length_take, List.length_take]; omega), List.map_append]
  rfl
theorem cntB_succ {l : List Cb} {so : List (List Int)} {k : Nat} {b : Cb} {s : List Int} (hx : l[k]? = some b) (hy : so[k]? = some s) : cntB (l.take (k + 1)) (so.take (k + 1)) = cntB (l.take k) (so.take k) ++ cntC b.l s := by
  unfold cntB
  have h1 := (List.getElem?_eq_some_iff.1 hx).1
  have h2 := (List.getElem?_eq_some_iff.1 hy).1
  rw [List.take_add_one, List.take_add_one, hx, hy, List.zip_append (by rw [List.length_take, List.length_take]; omega), List.flatMap_append]
  simp
theorem cntC_len (l : List Cl) (s : List Int) : (cntC l s).length ≤ l.length := by
  unfold cntC
  rw [List.length_map, List.length_zip]
  omega
theorem cntB_le : ∀ (l : List Cb) (so : List (List Int)), (∀ b ∈ l, b.l.length ≤ 30) → (cntB l so).length ≤ 30 * l.length
  | [], so, _ => by simp [cntB]
  | b :: r, [], _ => by simp [cntB]
  | b :: r, s :: t, h => by
    have ih := cntB_le r t (fun b hb => h b (by simp [hb]))
    have h1 := cntC_len b.l s
    have h2 := h b (by simp)
    unfold cntB at ih ⊢
    simp only [List.zip_cons_cons, List.flatMap_cons, List.length_append, List.length_cons]
    omega
theorem cl_new (w : World) (x : Cl) : (w.alloc (.cells #[.string x.code, .int .i64 x.prot] clT)).cell? ⟨w.heap.size, 0, none⟩ = some (.string x.code) ∧ (w.alloc (.cells #[.string x.code, .int .i64 x.prot] clT)).cell? ⟨w.heap.size, 1, none⟩ = some (.int .i64 x.prot) :=
  ⟨(cells_new w _ clT 0).trans rfl, (cells_new w _ clT 1).trans rfl⟩
set_option maxRecDepth 100000 in
set_option maxHeartbeats 2000000 in
theorem counts_none (R : Nat → Prop) (o : Own') (B n : Nat) (cs : List Cf) (g : Stk) (K : Int) (i : Lid) (w : World) (hS : StkAt w R o B n cs g) (hi : OkD i) (hq : g i = none) :
    Calls Tryz.prog 26 #[.pointer (some ⟨B, 0, none⟩), aggD i] w fun e w' => e = .returned (.slice none 0 0) ∧ Below w.heap.size w w' := by
  have hbA := bel_alloc w (.cells #[.string i.car, .int .i64 i.num, .int .i64 i.day, .string i.frm] lidT)
  have hS' := hS.more hbA
  obtain ⟨l0, l1, l2, l3⟩ := lid_new w i
  have HS := Lib.hid hS'
  have K1 : Hid (∀ W, StkAt W R o B n cs g → Calls Tryz.prog 56 #[.pointer (some ⟨B, 0, none⟩), aggD i] W fun e w' => e = .returned (.pointer none) ∧ Below W.heap.size W w') := Lib.hid (fun W h => (lfind_any R o B n cs g i W h hi).mono (by
    rintro e w' ⟨⟨p, rfl, hp⟩, hb⟩
    rw [hq] at hp
    obtain rfl := hp
    exact ⟨rfl, hb⟩))
  clear hS hS' hq
  go_enter Tryz.func26, Tryz.ntmps26
  go_upto_region 1 with fail
  generalize w.alloc (.cells #[.string i.car, .int .i64 i.num, .int .i64 i.day, .string i.frm] lidT) = w5 at *
  go_wp2_with (go_at_call 56; refine (K1.out _ HS.out).mono ?_; rintro e w6 ⟨rfl, hb6⟩)
  go_ret
  exact ⟨rfl, hbA.trans (hb6.mono hbA.size)⟩
set_option maxRecDepth 100000 in
set_option maxHeartbeats 16000000 in
theorem counts_some (R : Nat → Prop) (o : Own') (B n : Nat) (cs : List Cf) (g : Stk) (K : Int) (i : Lid) (q : Lg) (w : World) (hS : StkAt w R o B n cs g) (hG : OkG K cs g) (hi : OkD i) (hq : g i = some q) :
    Calls Tryz.prog 26 #[.pointer (some ⟨B, 0, none⟩), aggD i] w fun e w' => ∃ v, e = .returned v ∧ ROwn cntT 2 encN' w.heap.size w' v q.counts ∧ Below w.heap.size w w' := by
  have hbA := bel_alloc w (.cells #[.string i.car, .int .i64 i.num, .int .i64 i.day, .string i.frm] lidT)
  have hS' := hS.more hbA
  obtain ⟨l0, l1, l2, l3⟩ := lid_new w i
  have HS := Lib.hid hS'
  obtain ⟨hL, hf⟩ := hG.leg i q hq
  have hL0 := Lib.hid hL
  have K1 : Hid (∀ W, StkAt W R o B n cs g → Calls Tryz.prog 56 #[.pointer (some ⟨B, 0, none⟩), aggD i] W fun e w' => ∃ a, e = .returned (.pointer (some ⟨a, 0, none⟩)) ∧ LegAt w' o i a q ∧ CfAt w' q.f ∧ Below W.heap.size W w') := Lib.hid (fun W h => (lfind_any R o B n cs g i W h hi).mono (by
    rintro e w' ⟨⟨p, rfl, hp⟩, hb⟩
    rw [hq] at hp
    obtain ⟨a, rfl, ha⟩ := hp
    exact ⟨a, rfl, ha, (h.more hb).cfAt hf, hb⟩))
  clear hS hS' hq hL
  go_enter Tryz.func26, Tryz.ntmps26
  go_upto_region 1 with fail
  generalize w.alloc (.cells #[.string i.car, .int .i64 i.num, .int .i64 i.day, .string i.frm] lidT) = w5 at *
  go_upto_region 2 with (go_at_call 56; refine (K1.out _ HS.out).mono ?_; rintro e w6 ⟨a, rfl, ha, hcf, hb6⟩)
  have hb06 := hbA.trans (hb6.mono hbA.size)
  have d1 := ha.c1
  have HAL : Hid (a < w6.heap.size) := Lib.hid ha.lt
  obtain ⟨sb, sc, d2, hsb, hrows⟩ := ha.rows
  have D2 := Lib.hid d2
  have HRS := Lib.hid hrows
  have HCF := Lib.hid hcf
  have HSB := Lib.hid hsb
  clear ha hrows hcf d2 hsb
  obtain ⟨m, hm⟩ : ∃ m, m = q.f.l.length := ⟨_, rfl⟩
  have HM := Lib.hid hm
  rw [← hm] at d1
  clear hm
  obtain ⟨sl, hsl⟩ : ∃ sl, sl = q.so.length := ⟨_, rfl⟩
  have HSL := Lib.hid hsl
  rw [← hsl] at D2
  clear hsl
  have HLE : Hid (∀ k j b s, q.f.l[k]? = some b → (cntB (q.f.l.take k) (q.so.take k) ++ cntC (b.l.take j) s).length ≤ 100000000) := Lib.hid (fun k j b s hb => by
    have h1 := cntB_le (q.f.l.take k) (q.so.take k) (fun b hb => hL0.out.small.2 b (List.mem_of_mem_take hb))
    have h2 := cntC_len (b.l.take j) s
    have h3 := hL0.out.small.1
    have h4 := hL0.out.small.2 b (List.mem_of_getElem? hb)
    have h5 : (q.f.l.take k).length ≤ q.f.l.length := by rw [List.length_take]; omega
    have h6 : (b.l.take j).length ≤ b.l.length := by rw [List.length_take]; omega
    rw [List.length_append]
    omega)
  go_wp2
  clear d1
  go_loopw [22, 6] (fun vi vn wr => ∃ (k : Nat) (v : Value), k ≤ m ∧ vi = .int .i64 k ∧ v = vn ∧ Hid (ROwn cntT 2 encN' w6.heap.size wr v (cntB (q.f.l.take k) (q.so.take k)) ∧ SW w6 wr)) (fun vi _ _ => m - (intOf vi).toNat)
  case atStart => exact ⟨0, _, Nat.zero_le _, rfl, rfl, Lib.hid ⟨ROwn.nil (Nat.le_refl _), Below.refl _ _⟩⟩
  case round =>
    obtain ⟨k, v, hk, rfl, rfl, HH⟩ := hrel
    by_cases hlt : k < m
    · obtain ⟨b, hb⟩ : ∃ b, q.f.l[k]? = some b := ⟨_, List.getElem?_eq_getElem (by have := HM.out; omega)⟩
      obtain ⟨s, hs⟩ : ∃ s, q.so[k]? = some s := ⟨_, List.getElem?_eq_getElem (by have := HM.out; have := hL0.out.len; omega)⟩
      have hsb := hL0.out.each k b s hb hs
      have hSr : SW w6 wr := HH.out.2
      have hcr := CfAt.more HCF.out hSr
      obtain ⟨gg, oo, hA, k0, k1, k2, k3⟩ := cab_cells hcr hb
      obtain ⟨r, rc, d3, hrow⟩ := HRS.out k s hs
      have hrlt := hrow.lt
      have HROW := Lib.hid hrow
      have j2 : (k : Int) < (m : Int) := by omega
      have hk30 : k < 100 := by have := HM.out; have := hL0.out.small.1; omega
      have j3 : (k : Int) < (sl : Int) := by have := HM.out; have := HSL.out; have := hL0.out.len; omega
      have j1 : (0 : Int) ≤ (k : Int) := by omega
      rw [Nat.add_zero] at k0
      rw [hA]
      have HE := Lib.hid (cntB_succ hb hs)
      have HCB : CbAt wr b := hcr.2 b (List.mem_of_getElem? hb)
      have HBL := Lib.hid (fun j => HLE.out k j b (s.take j) hb)
      have hbB := bel_alloc wr (.cells #[.string b.name, .int .i64 b.seats, .int .i64 b.over, .slice b.A b.l.length b.c] cbT)
      obtain ⟨m0, m1, m2, m3⟩ := cb_new wr b
      have hSr2 := Below.trans hSr (Below.mono hbB hSr.size)
      have HO8 := Lib.hid (HH.out.1.more hbB)
      have HCB6 : Hid (CbAt w6 b) := Lib.hid (HCF.out.2 b (List.mem_of_getElem? hb))
      have HSL2 : Hid (s.length = b.l.length) := Lib.hid hsb
      have HB30 : Hid (b.l.length ≤ 30) := Lib.hid (hL0.out.small.2 b (List.mem_of_getElem? hb))
      clear hb hs hcr hrow HCB HH hsb
      generalize cntB (q.f.l.take k) (q.so.take k) = L0 at *
      go_upto_region 8 with fail
      clear k0 k1 k2 k3
      generalize wr.alloc (.cells #[.string b.name, .int .i64 b.seats, .int .i64 b.over, .slice b.A b.l.length b.c] cbT) = w8 at *
      go_wp2
      clear m0 m1 m2 m3
      go_loopw [30, 6] (fun vi vn wi => ∃ (j : Nat) (v : Value), j ≤ b.l.length ∧ vi = .int .i64 j ∧ v = vn ∧ Hid (ROwn cntT 2 encN' w6.heap.size wi vn (L0 ++ cntC (b.l.take j) (s.take j)) ∧ SW w6 wi)) (fun vi _ _ => b.l.length - (intOf vi).toNat)
      case atStart => exact ⟨0, _, Nat.zero_le _, rfl, rfl, Lib.hid ⟨by simpa [cntC] using HO8.out, hSr2⟩⟩
      case round =>
        obtain ⟨j, v, hj, rfl, rfl, HI⟩ := hrel
        by_cases hjlt : j < b.l.length
        · obtain ⟨x, hx⟩ : ∃ x, b.l[j]? = some x := ⟨_, List.getElem?_eq_getElem hjlt⟩
          obtain ⟨y, hy⟩ : ∃ y, s[j]? = some y := ⟨_, List.getElem?_eq_getElem (by rw [HSL2.out]; exact hjlt)⟩
          have hSi : SW w6 wr := HI.out.2
          obtain ⟨cg, co, eA, _, hcc⟩ := row_get (CbAt.more HCB6.out hSi) hx
          have y0 := hcc 0 _ rfl
          have y1 := hcc 1 _ rfl
          rw [Nat.add_zero] at y0
          rw [eA]
          have HE2 := Lib.hid (cntC_succ hx hy)
          have hO := HI.out.1
          have HLn : Hid ((L0 ++ cntC (b.l.take j) (s.take j)).length ≤ 100000000) := Lib.hid (HBL.out j)
          have HLO : Hid (∀ gq, v.ownBlock = some gq → w6.heap.size ≤ gq ∧ gq < wr.heap.size) := Lib.hid (fun gq hg => hO.low hg)
          have hnN : v.ownBlock ≠ some wr.heap.size := fun h => by have := (HLO.out _ h).2; omega
          have hnA : v.ownBlock ≠ some a := fun h => by have := (HLO.out _ h).1; have := HAL.out; omega
          have hnS : v.ownBlock ≠ some sb := fun h => by have := (HLO.out _ h).1; have := HSB.out; omega
          have hnR : v.ownBlock ≠ some r := fun h => by have := (HLO.out _ h).1; omega
          have hb9 := bel_alloc wr (.cells #[.string x.code, .int .i64 x.prot] clT)
          have hS9 := Below.trans hSi (Below.mono hb9 hSi.size)
          have f0 : ∀ W, SX (wr.alloc (.cells #[.string x.code, .int .i64 x.prot] clT)) v W → W.cell? ⟨wr.heap.size, 0, none⟩ = some (.string x.code) := fun W h => SX.cell (cl_new wr x).1 hnN h
          have f1 : ∀ W, SX (wr.alloc (.cells #[.string x.code, .int .i64 x.prot] clT)) v W → W.cell? ⟨a, 2, none⟩ = some (.slice (some ⟨sb, 0, none⟩) sl sc) := fun W h => SX.cell (bel_cell hS9 D2.out) hnA h
          have f2 : ∀ W, SX (wr.alloc (.cells #[.string x.code, .int .i64 x.prot] clT)) v W → W.cell? ⟨sb, k, none⟩ = some (.slice (some ⟨r, 0, none⟩) s.length rc) := fun W h => SX.cell (bel_cell hS9 d3) hnS h
          have f3 : ∀ W, SX (wr.alloc (.cells #[.string x.code, .int .i64 x.prot] clT)) v W → W.cell? ⟨r, j, none⟩ = some (.int .i64 y) := fun W h => SX.cell (bel_cell hS9 (HROW.out.at hy)) hnR h
          have HSW : Hid (∀ W, SX (wr.alloc (.cells #[.string x.code, .int .i64 x.prot] clT)) v W → SW w6 W) := Lib.hid (fun W h => Below.trans hS9 (h.below (Nat.le_trans hSi.size hb9.size) (fun k' hk' hv => by have := (HLO.out _ hv).1; omega)))
          have hO := hO.more (hb9.trans ((Below.refl _ (wr.alloc (.cells #[.string x.code, .int .i64 x.prot] clT))).drew.mono hb9.size))
          have j5 : (j : Int) < (b.l.length : Int) := by omega
          have j6 : (j : Int) < (s.length : Int) := by rw [HSL2.out]; omega
          have j7 : (0 : Int) ≤ (j : Int) := by omega
          have hj30 : j < 100 := by have := HB30.out; omega
          clear hx hy hcc HI hnN hnA hnS hnR HLO hS9 hSi
          generalize cntC (b.l.take j) (s.take j) = L1 at *
          go_upto_region 11 with fail
          clear y0 y1
          generalize wr.alloc (.cells #[.string x.code, .int .i64 x.prot] clT) = w9 at *
          have hS : (SX w9 v) _ := But.of_below (Below.refl _ _).drew
          refine wp_region_held_drew (S := SX w9 v) (by kernel_rfl) hS (fun _ => ?_)
          refine wpAnyH_take (i := 0) (v := ?vN0) rfl (by kernel_rfl) (by kernel_rfl) (by kernel_rfl) (fun _ _ _ h => h) (Or.inl ⟨by rfl, ?hyN0⟩) hS ?restN0
          case hyN0 =>
            intro w hSw
            first | (go_simp; done) | (go_simp; with_reducible rfl)
          try simp only [Act.put, List.setIfInBounds_toArray, List.set_cons_zero, List.set_cons_succ]
          refine wpAnyH_take (i := 1) (v := ?vN1) rfl (by kernel_rfl) (by kernel_rfl) (by kernel_rfl) (fun _ _ _ h => h) (Or.inl ⟨by rfl, ?hyN1⟩) hS ?restN1
          case hyN1 =>
            intro w hSw
            first | (go_simp; done) | (go_simp; with_reducible rfl)
          try simp only [Act.put, List.setIfInBounds_toArray, List.set_cons_zero, List.set_cons_succ]
          refine wpAnyH_take (i := 2) (v := ?vN2) rfl (by kernel_rfl) (by kernel_rfl) (by kernel_rfl) (fun _ _ _ h => h) (Or.inl ⟨by rfl, ?hyN2⟩) hS ?restN2
          case hyN2 =>
            intro w hSw
            have k0 := f0 w hSw; have k1 := f1 w hSw; have k2 := f2 w hSw; have k3 := f3 w hSw
            first | (go_simp; done) | (go_simp; with_reducible rfl)
          try simp only [Act.put, List.setIfInBounds_toArray, List.set_cons_zero, List.set_cons_succ]
          refine wpAnyH_take (i := 3) (v := ?vN3) rfl (by kernel_rfl) (by kernel_rfl) (by kernel_rfl) (fun _ _ _ h => h) (Or.inl ⟨by rfl, ?hyN3⟩) hS ?restN3
          case hyN3 =>
            intro w hSw
            first | (go_simp; done) | (go_simp; with_reducible rfl)
          try simp only [Act.put, List.setIfInBounds_toArray, List.set_cons_zero, List.set_cons_succ]
          refine wpAnyH_take (i := 4) (v := ?vN4) rfl (by kernel_rfl) (by kernel_rfl) (by kernel_rfl) (fun _ _ _ h => h) (Or.inl ⟨by rfl, ?hyN4⟩) hS ?restN4
          case hyN4 =>
            intro w hSw
            first | (go_simp; done) | (go_simp; with_reducible rfl)
          try simp only [Act.put, List.setIfInBounds_toArray, List.set_cons_zero, List.set_cons_succ]
          refine wpAnyH_take (i := 5) (v := ?vN5) rfl (by kernel_rfl) (by kernel_rfl) (by kernel_rfl) (fun _ _ _ h => h) (Or.inl ⟨by rfl, ?hyN5⟩) hS ?restN5
          case hyN5 =>
            intro w hSw
            first | (go_simp; done) | (go_simp; with_reducible rfl)
          try simp only [Act.put, List.setIfInBounds_toArray, List.set_cons_zero, List.set_cons_succ]
          refine wpAnyH_take (i := 6) (v := ?vN6) rfl (by kernel_rfl) (by kernel_rfl) (by kernel_rfl) (fun _ _ _ h => h) (Or.inl ⟨by rfl, ?hyN6⟩) hS ?restN6
          case hyN6 =>
            intro w hSw
            have k0 := f0 w hSw; have k1 := f1 w hSw; have k2 := f2 w hSw; have k3 := f3 w hSw
            first | (go_simp; done) | (go_simp; with_reducible rfl)
          try simp only [Act.put, List.setIfInBounds_toArray, List.set_cons_zero, List.set_cons_succ]
          refine wpAnyH_take (i := 7) (v := ?vN7) rfl (by kernel_rfl) (by kernel_rfl) (by kernel_rfl) (fun _ _ _ h => h) (Or.inl ⟨by rfl, ?hyN7⟩) hS ?restN7
          case hyN7 =>
            intro w hSw
            first | (go_simp; done) | (go_simp; with_reducible rfl)
          try simp only [Act.put, List.setIfInBounds_toArray, List.set_cons_zero, List.set_cons_succ]
          refine wpAnyH_take (i := 8) (v := ?vN8) rfl (by kernel_rfl) (by kernel_rfl) (by kernel_rfl) (fun _ _ _ h => h) (Or.inl ⟨by rfl, ?hyN8⟩) hS ?restN8
          case hyN8 =>
            intro w hSw
            have k0 := f0 w hSw; have k1 := f1 w hSw; have k2 := f2 w hSw; have k3 := f3 w hSw
            first | (go_simp; done) | (go_simp; with_reducible rfl)
          try simp only [Act.put, List.setIfInBounds_toArray, List.set_cons_zero, List.set_cons_succ]
          refine wpAnyH_take (i := 9) (v := ?vN9) rfl (by kernel_rfl) (by kernel_rfl) (by kernel_rfl) (fun _ _ _ h => h) (Or.inl ⟨by rfl, ?hyN9⟩) hS ?restN9
          case hyN9 =>
            intro w hSw
            have k0 := f0 w hSw; have k1 := f1 w hSw; have k2 := f2 w hSw; have k3 := f3 w hSw
            first | (go_simp; done) | (go_simp; with_reducible rfl)
          try simp only [Act.put, List.setIfInBounds_toArray, List.set_cons_zero, List.set_cons_succ]
          refine wpAnyH_take (i := 10) (v := ?vN10) rfl (by kernel_rfl) (by kernel_rfl) (by kernel_rfl) (fun _ _ _ h => h) (Or.inl ⟨by rfl, ?hyN10⟩) hS ?restN10
          case hyN10 =>
            intro w hSw
            first | (go_simp; done) | (go_simp; with_reducible rfl)
          try simp only [Act.put, List.setIfInBounds_toArray, List.set_cons_zero, List.set_cons_succ]
          refine wpAnyH_take (i := 11) (v := ?vN11) rfl (by kernel_rfl) (by kernel_rfl) (by kernel_rfl) (fun _ _ _ h => h) (Or.inl ⟨by rfl, ?hyN11⟩) hS ?restN11
          case hyN11 =>
            intro w hSw
            have k0 := f0 w hSw; have k1 := f1 w hSw; have k2 := f2 w hSw; have k3 := f3 w hSw
            first | (go_simp; done) | (go_simp; with_reducible rfl)
          try simp only [Act.put, List.setIfInBounds_toArray, List.set_cons_zero, List.set_cons_succ]
          refine wpAnyH_take (i := 12) (v := ?vN12) rfl (by kernel_rfl) (by kernel_rfl) (by kernel_rfl) (fun _ _ _ h => h) (Or.inl ⟨by rfl, ?hyN12⟩) hS ?restN12
          case hyN12 =>
            intro w hSw
            have k0 := f0 w hSw; have k1 := f1 w hSw; have k2 := f2 w hSw; have k3 := f3 w hSw
            first | (go_simp; done) | (go_simp; with_reducible rfl)
          try simp only [Act.put, List.setIfInBounds_toArray, List.set_cons_zero, List.set_cons_succ]
          refine wpAnyH_take (i := 13) (v := ?vN13) rfl (by kernel_rfl) (by kernel_rfl) (by kernel_rfl) (fun _ _ _ h => h) (Or.inl ⟨by rfl, ?hyN13⟩) hS ?restN13
          case hyN13 =>
            intro w hSw
            first | (go_simp; done) | (go_simp; with_reducible rfl)
          try simp only [Act.put, List.setIfInBounds_toArray, List.set_cons_zero, List.set_cons_succ]
          refine wpAnyH_ready (rs := [14]) (by kernel_rfl) (by simp) ?_
          refine AllReadyH.cons rfl (fun K hK => ?_) AllReadyH.nil
          go_simp
          have hSp := hS
          have hS := hS.on (bel_alloc _ (.cells #[.string x.code, .int .i64 y] cntT))
          refine hK.out _ _ hS (fun _ => ?_)
          clear hK K
          refine wpAnyH_ready (rs := [15]) (by kernel_rfl) (by simp) ?_
          refine AllReadyH.cons rfl (fun K hK => ?_) AllReadyH.nil
          refine step_rapp rowN rfl _ _ rfl hO rfl (bel_alloc _ _) _ (x.code, y) _ rfl (cs := #[.string x.code, .int .i64 y]) rfl (heap_alloc_new _ _) HLn.out ?_
          intro v10 w10 hO10 hC10
          go_simp
          have hS := hSp.trans hC10.but (fun _ _ h => h)
          refine hK.out _ _ hS (fun _ => ?_)
          clear hK K
          refine wpAnyH_take (i := 16) (v := ?vN16) rfl (by kernel_rfl) (by kernel_rfl) (by kernel_rfl) (fun _ _ _ h => h) (Or.inl ⟨by rfl, ?hyN16⟩) hS ?restN16
          case hyN16 =>
            intro w hSw
            first | (go_simp; done) | (go_simp; with_reducible rfl)
          try simp only [Act.put, List.setIfInBounds_toArray, List.set_cons_zero, List.set_cons_succ]
          refine wpAnyH_done (by kernel_rfl) ?_ _
          try simp only [List.getElem_toArray, List.getElem_cons_succ, List.getElem_cons_zero, List.set_cons_zero, List.set_cons_succ]
          have HY : Hid (ROwn cntT 2 encN' w6.heap.size w10 v10 (L0 ++ cntC (b.l.take (j + 1)) (s.take (j + 1))) ∧ SW w6 w10) := Lib.hid ⟨by rw [HE2.out, ← List.append_assoc]; exact hO10, HSW.out _ hS⟩
          clear hO10 hC10 hS hSp hO
          go_wp2
          go_roundw
          case rel => exact ⟨j + 1, _, by omega, by go_num, rfl, HY⟩
          case measure => simp [intOf]; omega
        · obtain rfl : j = b.l.length := by omega
          have HJ : Hid (ROwn cntT 2 encN' w6.heap.size wr v (cntB (q.f.l.take (k + 1)) (q.so.take (k + 1))) ∧ SW w6 wr) := Lib.hid (by
            rw [HE.out]
            have h := HI.out
            rw [List.take_length, List.take_of_length_le (by rw [HSL2.out]; exact Nat.le_refl _)] at h
            exact h)
          clear HI
          go_wp2
          go_roundw
          case rel => exact ⟨k + 1, _, by omega, by go_num, rfl, HJ⟩
          case measure => simp [intOf]; omega
    · obtain rfl : k = m := by omega
      have HJ : Hid (ROwn cntT 2 encN' w6.heap.size wr v q.counts ∧ SW w6 wr) := Lib.hid (by
        have h := HH.out
        rw [HM.out, List.take_length, List.take_of_length_le (by rw [hL0.out.len]; exact Nat.le_refl _)] at h
        exact h)
      clear HH
      go_wp2
      go_ret
      exact ⟨_, rfl, ⟨HJ.out.1.own.mono hb06.size, Nat.le_trans hb06.size HJ.out.2.size⟩, hb06.trans (Below.mono HJ.out.2 hb06.size)⟩
def cntG (g : Stk) (i : Lid) : List (ByteArray × Int) := match g i with
  | some q => q.counts
  | none => []
theorem counts_any (R : Nat → Prop) (o : Own') (B n : Nat) (cs : List Cf) (g : Stk) (K : Int) (i : Lid) (w : World) (hS : StkAt w R o B n cs g) (hG : OkG K cs g) (hi : OkD i) :
    Calls Tryz.prog 26 #[.pointer (some ⟨B, 0, none⟩), aggD i] w fun e w' => ∃ v, e = .returned v ∧ CntL w' v (cntG g i) ∧ Below w.heap.size w w' := by
  unfold cntG
  cases hq : g i with
  | none => exact (counts_none R o B n cs g K i w hS hi hq).mono (by rintro e w' ⟨rfl, hb⟩; exact ⟨_, rfl, ⟨none, 0, rfl, .inl rfl⟩, hb⟩)
  | some q => exact (counts_some R o B n cs g K i q w hS hG hi hq).mono (by rintro e w' ⟨v, rfl, h, hb⟩; exact ⟨v, rfl, h.rowL rowN.len, hb⟩)
end Go.Proofs.YtjmahmeionakaaaGreatDoor

/- hasTwice; Legs; check. -/
namespace Go.Proofs.YtjmahmeionakaaaGreatDoor
open Go.RowKit Go.Shelf Go.Maps Go.MapKept
set_option linter.unusedSimpArgs false
set_option linter.unusedVariables false

set_option maxRecDepth 100000 in
set_option maxHeartbeats 2000000 in
theorem run_eqD (x y : Lid) (w : World) : (binOp .eql lidT (aggD x) (aggD y)).run Tryz.prog w = .ok (.bool (eqD x y)) w := by
  have e : eqD x y = ((x.car.toList == y.car.toList) && (x.num == y.num) && (x.day == y.day) && (x.frm.toList == y.frm.toList)) := rfl
  rw [e]
  cases h1 : (x.car.toList == y.car.toList) <;> cases h2 : (x.num == y.num) <;> cases h3 : (x.day == y.day) <;> cases h4 : (x.frm.toList == y.frm.toList) <;> go_simp
/-! ### equal identifiers are neighbours in a sorted list -/
theorem twi_iff : ∀ l : List Lid, twiP l = true ↔ ¬ l.Nodup
  | [] => by simp [twiP]
  | i :: r => by
    rw [twiP, List.nodup_cons, Bool.or_eq_true, twi_iff r, List.any_eq_true]
    have : (∃ x, x ∈ r ∧ eqD i x = true) ↔ i ∈ r := ⟨fun ⟨x, hx, e⟩ => by rw [(eqD_iff _ _).1 e]; exact hx, fun h => ⟨i, h, (eqD_iff _ _).2 rfl⟩⟩
    rw [this]
    constructor
    · rintro (h | h) ⟨h1, h2⟩
      · exact h1 h
      · exact h h2
    · intro h
      by_cases e : i ∈ r
      · exact .inl e
      · exact .inr (fun h2 => h ⟨e, h2⟩)
theorem srt_lt {zs : List Lid} (ho : ∀ (i j : Nat) (x y : Lid), i < j → zs[i]? = some x → zs[j]? = some y → ¬ ltD y x) (hn : ∀ (j : Nat) (x y : Lid), zs[j]? = some x → zs[j + 1]? = some y → eqD y x = false) : ∀ (d i : Nat) (x y : Lid), zs[i]? = some x → zs[i + 1 + d]? = some y → ltD x y
  | 0, i, x, y, hx, hy => by
    rcases ltD_tri x y with h | rfl | h
    · exact h
    · have := hn i x x hx hy
      rw [(eqD_iff _ _).2 rfl] at this
      cases this
    · exact absurd h (ho i (i + 1) x y (by omega) hx hy)
  | d + 1, i, x, y, hx, hy => by
    have hl := (List.getElem?_eq_some_iff.1 hy).1
    obtain ⟨z, hz⟩ : ∃ z, zs[i + 1 + d]? = some z := ⟨_, List.getElem?_eq_getElem (by omega)⟩
    have h1 := srt_lt ho hn d i x z hx hz
    have h2 := srt_lt ho hn 0 (i + 1 + d) z y hz (by rw [show i + 1 + d + 1 + 0 = i + 1 + (d + 1) by omega]; exact hy)
    exact ltD_trans h1 h2
theorem srt_nodup {zs : List Lid} (ho : ∀ (i j : Nat) (x y : Lid), i < j → zs[i]? = some x → zs[j]? = some y → ¬ ltD y x) (hn : ∀ (j : Nat) (x y : Lid), zs[j]? = some x → zs[j + 1]? = some y → eqD y x = false) : zs.Nodup := by
  rw [List.nodup_iff_pairwise_ne, List.pairwise_iff_getElem]
  intro i j hi hj hij e
  have h := srt_lt ho hn (j - i - 1) i zs[i] zs[j] (List.getElem?_eq_getElem hi) (by rw [show i + 1 + (j - i - 1) = j by omega]; exact List.getElem?_eq_getElem hj)
  rw [e] at h
  exact ltD_irrefl _ h
theorem adj_dup {zs : List Lid} {j : Nat} {x y : Lid} (hx : zs[j]? = some x) (hy : zs[j + 1]? = some y) (he : eqD y x = true) : ¬ zs.Nodup := by
  intro h
  rw [List.nodup_iff_pairwise_ne, List.pairwise_iff_getElem] at h
  obtain ⟨h1, rfl⟩ := List.getElem?_eq_some_iff.1 hx
  obtain ⟨h2, rfl⟩ := List.getElem?_eq_some_iff.1 hy
  exact h j (j + 1) h1 h2 (by omega) ((eqD_iff _ _).1 he).symm
theorem twi_sort {ys zs : List Lid} (hp : zs.Perm ys) : (¬ zs.Nodup → twiP ys = true) ∧ (zs.Nodup → twiP ys = false) :=
  ⟨fun h => (twi_iff ys).2 (fun k => h (hp.nodup_iff.2 k)), fun h => by
    cases e : twiP ys with
    | false => rfl
    | true => exact absurd (hp.nodup_iff.1 h) ((twi_iff ys).1 e)⟩
set_option maxHeartbeats 1000000 in
theorem values_any (A : Option Addr) (n c : Nat) (w : World) : Calls Tryz.prog 133 #[.slice A n c] w fun e w' => e = .returned (.func (.func 147) #[] #[.pointer (some ⟨w.heap.size, 0, none⟩)]) ∧ w' = w.alloc (.cells #[.slice A n c] lisT) := by
  go_enter Tryz.func133, Tryz.ntmps133
  go_wp2
  go_ret
  exact ⟨rfl, rfl⟩
set_option maxHeartbeats 1000000 in
theorem keys_any (m : Option Nat) (w : World) : Calls Tryz.prog 82 #[.map m] w fun e w' => e = .returned (.func (.func 118) #[] #[.pointer (some ⟨w.heap.size, 0, none⟩)]) ∧ w' = w.alloc (.cells #[.map m] lgmT) := by
  go_enter Tryz.func82, Tryz.ntmps82
  go_wp2
  go_ret
  exact ⟨rfl, rfl⟩
theorem eg_vals : ∀ args w, (callFunc 147 args).run Tryz.prog w = .ok (.enter 147 args) w := enters_of Tryz.func147 (by kernel_rfl) rfl
theorem eg_keys : ∀ args w, (callFunc 118 args).run Tryz.prog w = .ok (.enter 118 args) w := enters_of Tryz.func118 (by kernel_rfl) rfl
set_option maxRecDepth 100000 in
set_option maxHeartbeats 4000000 in
theorem hasTwice_any (A : Option Addr) (c : Nat) (is : List Lid) (w : World) (hl : is.length ≤ 1000) (hL : LidL w (.slice A is.length c) is) :
    Calls Tryz.prog 106 #[.slice A is.length c] w fun e w' => e = .returned (.bool (twiP is)) ∧ Below w.heap.size w w' := by
  have K1 := Lib.hid (values_any A is.length c w)
  have hbA := bel_alloc w (.cells #[.slice A is.length c] lisT)
  have K2 : Hid (Calls Tryz.prog 81 #[.func (.func 147) #[] #[.pointer (some ⟨w.heap.size, 0, none⟩)], .func (.func 83) #[] #[]] (w.alloc (.cells #[.slice A is.length c] lisT)) fun e w' => ∃ v zs, e = .returned v ∧ (∃ W, SrtD W is w' v zs) ∧ Below w.heap.size w w') := Lib.hid ((sortedF_any _ _ (fun ys => ys = is) (fun _ => True) is.length _ eg_vals hl (fun ys h => by rw [h]; exact hl)
    (vals_stops w.heap.size _ A c is hl _ (Nat.le_refl _) ((cells_new w #[.slice A is.length c] lisT 0).trans rfl) (inD_of (RowL.more hL hbA)))).mono (by
      rintro e w' ⟨v, ys, zs, rfl, rfl, hz, hb⟩
      exact ⟨v, zs, rfl, ⟨_, hz⟩, hbA.trans (hb.mono hbA.size)⟩))
  have HTW : Hid (∀ zs : List Lid, zs.Perm is → (¬ zs.Nodup → twiP is = true) ∧ (zs.Nodup → twiP is = false)) := Lib.hid (fun zs h => twi_sort h)
  generalize twiP is = T at *
  clear hL
  go_enter Tryz.func106, Tryz.ntmps106
  go_upto_region 2 with (first
    | (go_at_call 133; refine K1.out.mono ?_; rintro e w5 ⟨rfl, rfl⟩)
    | (go_at_call 81; refine K2.out.mono ?_; rintro e w6 ⟨v, zs, rfl, ⟨W6, hz⟩, hb6⟩))
  obtain ⟨A2, c2, rfl, _⟩ := id hz.row
  have HZR := Lib.hid hz.row
  have HZO := Lib.hid hz.ord
  have HTT := Lib.hid (HTW.out zs hz.perm)
  have hzl : zs.length ≤ 1000 := by rw [hz.perm.length_eq]; exact hl
  clear hz
  go_wp2
  go_loopw [4] (fun vi wr => ∃ k : Nat, k ≤ zs.length ∧ vi = .int .i64 ((k : Int) + 1) ∧ Hid (∀ (j : Nat) (x y : Lid), j < k → zs[j]? = some x → zs[j + 1]? = some y → eqD y x = false) ∧ SW w6 wr) (fun vi _ => zs.length + 1 - (intOf vi).toNat)
  case atStart => exact ⟨0, Nat.zero_le _, rfl, Lib.hid (fun j x y hj => absurd hj (Nat.not_lt_zero _)), Below.refl _ _⟩
  case round =>
    obtain ⟨k, hk, rfl, HK, hSr⟩ := hrel
    by_cases hlt : k + 1 < zs.length
    · obtain ⟨x, hx⟩ : ∃ x, zs[k]? = some x := ⟨_, List.getElem?_eq_getElem (by omega)⟩
      obtain ⟨y, hy⟩ : ∃ y, zs[k + 1]? = some y := ⟨_, List.getElem?_eq_getElem hlt⟩
      obtain ⟨b, o, e1, _, hc0⟩ := row_get HZR.out hx
      obtain ⟨b', o', e2, _, hc1⟩ := row_get HZR.out hy
      rw [e1] at e2
      cases e2
      have x0 := SW.cell (bel_cell hSr (hc0 0 _ rfl))
      have x1 := SW.cell (bel_cell hSr (hc0 1 _ rfl))
      have x2 := SW.cell (bel_cell hSr (hc0 2 _ rfl))
      have x3 := SW.cell (bel_cell hSr (hc0 3 _ rfl))
      have y0 := SW.cell (bel_cell hSr (hc1 0 _ rfl))
      have y1 := SW.cell (bel_cell hSr (hc1 1 _ rfl))
      have y2 := SW.cell (bel_cell hSr (hc1 2 _ rfl))
      have y3 := SW.cell (bel_cell hSr (hc1 3 _ rfl))
      rw [Nat.add_zero] at x0 y0
      rw [e1]
      have i1 : (k : Int) + 1 < (zs.length : Int) := by omega
      have i2 : (0 : Int) ≤ (k : Int) + 1 := by omega
      have i3 : (0 : Int) ≤ (k : Int) := by omega
      have i4 : (k : Int) < (zs.length : Int) := by omega
      have i5 : (k : Int) + 1 - 1 = (k : Int) := by omega
      have i6 : ((k : Int) + 1).toNat = k + 1 := by omega
      have heq := fun W => run_eqD y x W
      cases hq : eqD y x with
      | true =>
        have HT := Lib.hid (HTT.out.1 (adj_dup hx hy hq))
        rw [hq] at heq
        clear hx hy hc0 hc1 hq
        go_wp2
        have hNe : Nonempty (Wd (SW wr)) := ⟨⟨_, SW.drew _⟩⟩
        refine quietS (S := SW wr) (by kernel_rfl) (by kernel_rfl) (SW.drew _) ?_
        repeat (first | go_big_quiet_skip | (go_big_quiet_want; go_big_quiet_op; first | go_big_quiet_on | go_big_quiet_call ((fail))))
        refine wpQuiet_nil ?_
        rintro W ⟨⟨_, hW⟩, rfl⟩
        go_wp2
        go_ret
        exact ⟨by rw [HT.out]; rfl, hb6.trans (Below.mono (Below.trans hSr (Below.mono hW hSr.size)) hb6.size)⟩
      | false =>
        have HX := Lib.hid hx
        have HY := Lib.hid hy
        have HQ := Lib.hid hq
        rw [hq] at heq
        clear hx hy hc0 hc1 hq
        go_wp2
        have hNe : Nonempty (Wd (SW wr)) := ⟨⟨_, SW.drew _⟩⟩
        refine quietS (S := SW wr) (by kernel_rfl) (by kernel_rfl) (SW.drew _) ?_
        repeat (first | go_big_quiet_skip | (go_big_quiet_want; go_big_quiet_op; first | go_big_quiet_on | go_big_quiet_call ((fail))))
        refine wpQuiet_nil ?_
        rintro W ⟨⟨_, hW⟩, rfl⟩
        go_wp2
        go_roundw
        case rel =>
          refine ⟨k + 1, by omega, by go_num, Lib.hid (fun j x' y' hj hx' hy' => ?_), Below.trans hSr (Below.mono hW hSr.size)⟩
          by_cases hjk : j = k
          · subst hjk
            rw [HX.out] at hx'
            rw [HY.out] at hy'
            cases hx'
            cases hy'
            exact HQ.out
          · exact HK.out j x' y' (by omega) hx' hy'
        case measure => simp [intOf]; omega
    · have HT := Lib.hid (HTT.out.2 (srt_nodup HZO.out (fun j x y hx hy => HK.out j x y (by have := (List.getElem?_eq_some_iff.1 hy).1; omega) hx hy)))
      have i1 : ¬ (k : Int) + 1 < (zs.length : Int) := by omega
      go_wp2
      go_ret
      exact ⟨by rw [HT.out]; rfl, hb6.trans (Below.mono hSr hb6.size)⟩
end Go.Proofs.YtjmahmeionakaaaGreatDoor

/- Legs; check; the questions of Sell and Cancel over several legs. -/
namespace Go.Proofs.YtjmahmeionakaaaGreatDoor
open Go.RowKit Go.Shelf Go.Maps Go.MapKept
set_option linter.unusedSimpArgs false
set_option linter.unusedVariables false

abbrev spT : TypeId := 26
/-- all legs, in order -/
structure LegsR (g : Stk) (zs : List Lid) : Prop where
  ord : zs.Pairwise fun x y => ltD x y
  mem : ∀ c, c ∈ zs ↔ (g c).isSome = true
theorem LegsR.unique : ∀ {zs ys : List Lid}, (zs.Pairwise fun x y => ltD x y) → (ys.Pairwise fun x y => ltD x y) → (∀ c, c ∈ zs ↔ c ∈ ys) → zs = ys
  | [], [], _, _, _ => rfl
  | [], y :: ys, _, _, h => by have := (h y).2 (by simp); cases this
  | z :: zs, [], _, _, h => by have := (h z).1 (by simp); cases this
  | z :: zs, y :: ys, h1, h2, h => by
    rw [List.pairwise_cons] at h1 h2
    have e : z = y := by
      have a := (h z).1 (by simp)
      have b := (h y).2 (by simp)
      rcases List.mem_cons.1 a with a | a
      · exact a
      · rcases List.mem_cons.1 b with b | b
        · exact b.symm
        · exact absurd (ltD_trans (h1.1 y b) (h2.1 z a)) (ltD_irrefl _)
    subst e
    rw [LegsR.unique h1.2 h2.2 (fun c => ?_)]
    constructor
    · intro hc
      rcases List.mem_cons.1 ((h c).1 (by simp [hc])) with e | e
      · subst e; exact absurd (h1.1 c hc) (ltD_irrefl _)
      · exact e
    · intro hc
      rcases List.mem_cons.1 ((h c).2 (by simp [hc])) with e | e
      · subst e; exact absurd (h2.1 c hc) (ltD_irrefl _)
      · exact e
theorem LegsR.eq {g : Stk} {zs ys : List Lid} (h : LegsR g zs) (k : LegsR g ys) : zs = ys := LegsR.unique h.ord k.ord (fun c => (h.mem c).trans (k.mem c).symm)
set_option maxRecDepth 100000 in
set_option maxHeartbeats 4000000 in
theorem legs_any (R : Nat → Prop) (o : Own') (B n : Nat) (cs : List Cf) (g : Stk) (w : World) (hS : StkAt w R o B n cs g) (hn : n ≤ 1000) :
    Calls Tryz.prog 39 #[.pointer (some ⟨B, 0, none⟩)] w fun e w' => ∃ v zs, e = .returned v ∧ LidL w' v zs ∧ zs.length ≤ 1000 ∧ LegsR g zs ∧ Below w.heap.size w w' := by
  obtain ⟨mc, ml, nc, c0, c1, _, _, _, ho, hM⟩ := hS.box
  have K0 := Lib.hid (isVoid_no B ml w c1)
  have K1 := Lib.hid (keys_any (some ml) w)
  have hbA := bel_alloc w (.cells #[.map (some ml)] lgmT)
  have K2 : Hid (Calls Tryz.prog 81 #[.func (.func 118) #[] #[.pointer (some ⟨w.heap.size, 0, none⟩)], .func (.func 83) #[] #[]] (w.alloc (.cells #[.map (some ml)] lgmT)) fun e w' => ∃ v zs, e = .returned v ∧ LidL w' v zs ∧ zs.length ≤ 1000 ∧ LegsR g zs ∧ Below w.heap.size w w') := Lib.hid ((sortedF_any _ _ (fun ys => ys.Nodup ∧ (∀ c, c ∈ ys ↔ (g c).isSome = true) ∧ ys.length ≤ n) (fun _ => True) n _ eg_keys hn (fun ys h => Nat.le_trans h.2.2 hn)
    (keys_stops w.heap.size ml n _ g o _ (Nat.le_refl _) ((cells_new w #[.map (some ml)] lgmT 0).trans rfl) (hM.same (Below.but (fun _ => False) hbA) (fun k hk => hk.elim) ho) ho)).mono (by
      rintro e w' ⟨v, ys, zs, rfl, ⟨h1, h2, h3⟩, hz, hb⟩
      have hnd : zs.Nodup := hz.perm.nodup_iff.2 h1
      refine ⟨v, zs, rfl, hz.row, by rw [hz.perm.length_eq]; omega, ⟨?_, fun c => by rw [hz.perm.mem_iff, h2]⟩, hbA.trans (hb.mono hbA.size)⟩
      rw [List.pairwise_iff_getElem]
      intro i j hi hj hij
      have h4 := hz.ord i j _ _ hij (List.getElem?_eq_getElem hi) (List.getElem?_eq_getElem hj)
      rcases ltD_tri zs[i] zs[j] with h | h | h
      · exact h
      · rw [List.nodup_iff_pairwise_ne, List.pairwise_iff_getElem] at hnd
        exact absurd h (hnd i j hi hj hij)
      · exact absurd h h4))
  clear hS hM
  go_enter Tryz.func39, Tryz.ntmps39
  go_wp2_with (first
    | (go_at_call 67; refine K0.out.mono ?_; rintro e w4 ⟨rfl, rfl⟩)
    | (go_at_call 82; refine K1.out.mono ?_; rintro e w5 ⟨rfl, rfl⟩)
    | (go_at_call 81; refine K2.out.mono ?_; rintro e w6 ⟨v, zs, rfl, hz1, hz2, hz3, hb6⟩))
  go_ret
  exact ⟨v, zs, rfl, hz1, hz2, hz3, hb6⟩
theorem box1 (w : World) (v : Value) (t : TypeId) : (w.alloc (.cells #[v] t)).cell? ⟨w.heap.size, 0, none⟩ = some v := (cells_new w #[v] t 0).trans rfl
set_option maxRecDepth 100000 in
set_option maxHeartbeats 4000000 in
theorem lcheck_any (R : Nat → Prop) (o : Own') (B n : Nat) (cs : List Cf) (g : Stk) (A : Option Addr) (c : Nat) (is : List Lid) (m : Int) (w : World) (hS : StkAt w R o B n cs g) (hL : LidL w (.slice A is.length c) is) (hl : is.length ≤ 1000) (hok : ∀ i ∈ is, OkD i) :
    Calls Tryz.prog 60 #[.pointer (some ⟨B, 0, none⟩), .slice A is.length c, .int .i64 m] w fun e w' => e = .returned (.int .i64 (chkE g is m)) ∧ Below w.heap.size w w' := by
  have hbA := bel_alloc w (.cells #[.pointer (some ⟨B, 0, none⟩)] spT)
  have hS1 := hS.more hbA
  have hz := box1 w (.pointer (some ⟨B, 0, none⟩)) spT
  obtain ⟨mc, ml, nc, c0, c1, _, _, _, ho, hM⟩ := hS1.box
  have K0 := Lib.hid (isVoid_no B ml _ c1)
  have K1 := Lib.hid (hasTwice_any A c is _ hl (RowL.more hL hbA))
  have K2 : Hid (∀ W, SW (w.alloc (.cells #[.pointer (some ⟨B, 0, none⟩)] spT)) W → Calls Tryz.prog 61 #[.slice A is.length c, .func (.func 107) #[] #[.pointer (some ⟨w.heap.size, 0, none⟩)]] W fun e w' => e = .returned (.bool (is.any fun i => (g i).isNone)) ∧ SW W w') := Lib.hid (fun W hW => containsD_any _ _ A c is (fun i => (g i).isNone) W eg_check1 hl ((RowL.more hL hbA).more hW) (fun a W' ha hW' => check1_any R o B n w.heap.size cs g a W' ((hS1.more hW).more hW') (hok a ha) (bel_cell hW' (bel_cell hW hz))))
  have HC : Hid (chkE g is m = _) := Lib.hid rfl
  unfold chkE at HC ⊢
  generalize (is.any fun i => (g i).isNone) = t7 at *
  generalize twiP is = t6 at *
  clear hS hS1 hL hM
  by_cases hm : m < 1
  · rw [if_pos (.inl hm)]
    go_enter Tryz.func60, Tryz.ntmps60
    go_upto_region 1 with fail
    generalize w.alloc (.cells #[.pointer (some ⟨B, 0, none⟩)] spT) = w5 at *
    go_wp2_with (go_at_call 67; refine K0.out.mono ?_; rintro e w6 ⟨rfl, rfl⟩)
    go_ret
    exact ⟨rfl, hbA⟩
  by_cases he : is = []
  · rw [if_pos (.inr he)]
    have h0 : ((is.length : Int) == 0) = true := by rw [he]; rfl
    clear he
    go_enter Tryz.func60, Tryz.ntmps60
    go_upto_region 1 with fail
    generalize w.alloc (.cells #[.pointer (some ⟨B, 0, none⟩)] spT) = w5 at *
    go_wp2_with (go_at_call 67; refine K0.out.mono ?_; rintro e w6 ⟨rfl, rfl⟩)
    go_ret
    exact ⟨rfl, hbA⟩
  rw [if_neg (fun h => h.elim hm he)]
  have h0 : ((is.length : Int) == 0) = false := by
    rw [beq_eq_false_iff_ne]
    intro h
    exact he (List.eq_nil_of_length_eq_zero (by omega))
  clear he
  cases t6 with
  | true =>
    rw [if_pos rfl]
    go_enter Tryz.func60, Tryz.ntmps60
    go_upto_region 1 with fail
    generalize w.alloc (.cells #[.pointer (some ⟨B, 0, none⟩)] spT) = w5 at *
    go_wp2_with (first
      | (go_at_call 67; refine K0.out.mono ?_; rintro e w6 ⟨rfl, rfl⟩)
      | (go_at_call 106; refine K1.out.mono ?_; rintro e w7 ⟨rfl, hb7⟩))
    go_ret
    exact ⟨rfl, hbA.trans (hb7.mono hbA.size)⟩
  | false =>
    rw [if_neg (by simp)]
    cases t7 with
    | true =>
      rw [if_pos rfl]
      go_enter Tryz.func60, Tryz.ntmps60
      go_upto_region 1 with fail
      generalize w.alloc (.cells #[.pointer (some ⟨B, 0, none⟩)] spT) = w5 at *
      go_wp2_with (first
        | (go_at_call 67; refine K0.out.mono ?_; rintro e w6 ⟨rfl, rfl⟩)
        | (go_at_call 106; refine K1.out.mono ?_; rintro e w7 ⟨rfl, hb7⟩)
        | (go_at_call 61; refine (K2.out _ hb7).mono ?_; rintro e w8 ⟨rfl, hb8⟩))
      go_ret
      exact ⟨rfl, hbA.trans ((hb7.trans (Below.mono hb8 hb7.size)).mono hbA.size)⟩
    | false =>
      rw [if_neg (by simp)]
      go_enter Tryz.func60, Tryz.ntmps60
      go_upto_region 1 with fail
      generalize w.alloc (.cells #[.pointer (some ⟨B, 0, none⟩)] spT) = w5 at *
      go_wp2_with (first
        | (go_at_call 67; refine K0.out.mono ?_; rintro e w6 ⟨rfl, rfl⟩)
        | (go_at_call 106; refine K1.out.mono ?_; rintro e w7 ⟨rfl, hb7⟩)
        | (go_at_call 61; refine (K2.out _ hb7).mono ?_; rintro e w8 ⟨rfl, hb8⟩))
      go_ret
      exact ⟨rfl, hbA.trans ((hb7.trans (Below.mono hb8 hb7.size)).mono hbA.size)⟩
end Go.Proofs.YtjmahmeionakaaaGreatDoor

/- add: seats that are sold or given back, in memory. -/
namespace Go.Proofs.YtjmahmeionakaaaGreatDoor
open Go.RowKit Go.Shelf Go.Maps Go.MapKept
set_option linter.unusedSimpArgs false
set_option linter.unusedVariables false

theorem addS_at {so : List (List Int)} {i : Nat} {s : List Int} (k : Nat) (n : Int) (h : so[i]? = some s) : addS so i k n = so.set i (wiL s k n) := by unfold addS; rw [h]
theorem wiL_get {s : List Int} {k : Nat} {x : Int} (n : Int) (h : s[k]? = some x) : wiL s k n = s.set k (x + n) := by unfold wiL; rw [h]; rfl
theorem totP_set {so : List (List Int)} {i : Nat} {s t : List Int} (h : so[i]? = some s) : totP (so.set i t) = totP so + (sumI t - sumI s) := by
  unfold totP
  rw [List.map_set]
  exact sumI_set (so.map sumI) i (sumI t) (sumI s) (by rw [List.getElem?_map, h]; rfl)
theorem OkL.mono {K K' : Int} {q : Lg} (h : OkL K q) (hk : K ≤ K') : OkL K' q := { h with tot := Int.le_trans h.tot hk }
theorem OkG.mono {K K' : Int} {cs : List Cf} {g : Stk} (h : OkG K cs g) (hk : K ≤ K') : OkG K' cs g := ⟨fun i q hq => ⟨(h.leg i q hq).1.mono hk, (h.leg i q hq).2⟩⟩
theorem OkL.add {K : Int} {q : Lg} (h : OkL K q) {c : ByteArray} (hc : q.has c = true) {m : Int} (hm : 0 ≤ q.sold c + m) : OkL (K + max m 0) (q.add c m) := by
  obtain ⟨b, s, x, hP⟩ := h.plc hc
  rw [hP.sold] at hm
  have e1 : (q.add c m).so = q.so.set (q.ci c) (s.set (q.ck c) (x + m)) := by
    show addS q.so (q.ci c) (q.ck c) m = _
    rw [addS_at _ _ hP.hs, wiL_get m hP.hx]
  have hsum := sumI_set s (q.ck c) (x + m) x hP.hx
  refine { right := h.right, small := h.small, ok := h.ok, pos := h.pos, cls := h.cls, len := ?_, each := fun i b' s' hb hs => ?_, low := fun s' hs y hy => ?_, tot := ?_ }
  · rw [e1, List.length_set]; exact h.len
  · rw [e1, List.getElem?_set] at hs
    split at hs
    · rename_i e
      subst e
      split at hs
      · cases hs
        have := h.each _ b' s hb hP.hs
        rw [List.length_set]; exact this
      · cases hs
    · exact h.each i b' s' hb hs
  · rw [e1] at hs
    rcases List.mem_or_eq_of_mem_set hs with h1 | rfl
    · exact h.low s' h1 y hy
    · rcases List.mem_or_eq_of_mem_set hy with h2 | rfl
      · exact h.low s (List.mem_of_getElem? hP.hs) y h2
      · exact hm
  · rw [e1, totP_set hP.hs, hsum]
    have := h.tot
    have := Int.le_max_left m 0
    omega
theorem addG_no (g : Stk) (c : ByteArray) (m : Int) (i : Lid) : ∀ l : List Lid, i ∉ l → addG g l c m i = g i := by
  intro l
  induction l generalizing g with
  | nil => intro _; rfl
  | cons j r ih =>
    intro h
    show addG (addG1 g c m j) r c m i = g i
    rw [ih _ (fun hr => h (by simp [hr]))]
    unfold addG1
    cases g j with
    | some q => show updS g j (q.add c m) i = g i; unfold updS; rw [if_neg (fun e => h (by simp [e]))]
    | none => rfl
theorem addG_snoc (g : Stk) (c : ByteArray) (m : Int) (l : List Lid) (i : Lid) : addG g (l ++ [i]) c m = addG1 (addG g l c m) c m i := by
  unfold addG
  rw [List.foldl_append]
  rfl
theorem OkG.upd {K : Int} {cs : List Cf} {g : Stk} (h : OkG K cs g) {i : Lid} {q : Lg} (hq : OkL K q) (hf : q.f ∈ cs) : OkG K cs (updS g i q) := ⟨fun j q' hj => by
  unfold updS at hj
  split at hj
  · cases hj; exact ⟨hq, hf⟩
  · exact h.leg j q' hj⟩

/-! ### a store into a leg's row -/
theorem SoldAt.store {w : World} {o : Own'} {i : Lid} {v : Value} {so : List (List Int)} (h : SoldAt w o i v so) {ci ck r : Nat} {s : List Int} {x : Int} (hs : so[ci]? = some s) (hck : ck < s.length) (hr : o r = .row i ci) (hrow : Row w r s)
    (hcell : ∃ b c rc, v = .slice (some ⟨b, 0, none⟩) so.length c ∧ w.cell? ⟨b, ci, none⟩ = some (.slice (some ⟨r, 0, none⟩) s.length rc)) : SoldAt (w.setCell ⟨r, ck, none⟩ (.int .i64 x)) o i v (so.set ci (s.set ck x)) := by
  obtain ⟨b, c, e, h1, h2, h3⟩ := h
  obtain ⟨b', c', rc', e', hc⟩ := hcell
  rw [e] at e'
  simp only [Value.slice.injEq, Option.some.injEq, Addr.mk.injEq, and_true, true_and] at e'
  obtain ⟨rfl, rfl⟩ := e'
  have hbut := But.setCell w r ck (.int .i64 x)
  have hbr : b ≠ r := fun e => by rw [e, hr] at h1; cases h1
  refine ⟨b, c, by rw [List.length_set]; exact e, h1, Nat.lt_of_lt_of_le h2 hbut.size, fun k t hk => ?_⟩
  rw [List.getElem?_set] at hk
  by_cases ek : ci = k
  · subst ek
    rw [if_pos rfl] at hk
    split at hk
    · cases hk
      exact ⟨r, rc', by rw [List.length_set]; exact but_cell hbut hc hbr, hr, hrow.set ck hck x⟩
    · cases hk
  · rw [if_neg ek] at hk
    obtain ⟨r', c', g1, g2, g3⟩ := h3 k t hk
    have hrr : r' ≠ r := fun e => by rw [e, hr] at g2; exact ek (by injection g2)
    exact ⟨r', c', but_cell hbut g1 hbr, g2, g3.but hbut hrr⟩
theorem LegAt.store {w : World} {o : Own'} {i : Lid} {a : Nat} {q : Lg} (h : LegAt w o i a q) {c : ByteArray} {b : Cb} {s : List Int} {x : Int} (hP : PlcR q c b s x) {sb sc r rc : Nat} (d2 : w.cell? ⟨a, 2, none⟩ = some (.slice (some ⟨sb, 0, none⟩) q.so.length sc)) (d3 : w.cell? ⟨sb, q.ci c, none⟩ = some (.slice (some ⟨r, 0, none⟩) s.length rc)) (hr : o r = .row i (q.ci c)) (hrow : Row w r s) (m : Int) :
    LegAt (w.setCell ⟨r, q.ck c, none⟩ (.int .i64 (x + m))) o i a (q.add c m) := by
  have hbut := But.setCell w r (q.ck c) (.int .i64 (x + m))
  have har : a ≠ r := fun e => by have := h.tag; rw [e, hr] at this; cases this
  obtain ⟨v, h2, h3⟩ := h.c2
  have hv : v = .slice (some ⟨sb, 0, none⟩) q.so.length sc := Option.some.inj (h2.symm.trans d2)
  have e1 : (q.add c m).so = q.so.set (q.ci c) (s.set (q.ck c) (x + m)) := by
    show addS q.so (q.ci c) (q.ck c) m = _
    rw [addS_at _ _ hP.hs, wiL_get m hP.hx]
  refine ⟨h.tag, Nat.lt_of_lt_of_le h.lt hbut.size, but_cell hbut h.c0 har, but_cell hbut h.c1 har, ⟨v, but_cell hbut h2 har, ?_⟩, but_cell hbut h.c3 har, fun j => (but_froz (a := ⟨a, j, none⟩) hbut h.lt har).trans (h.froz j)⟩
  rw [e1]
  exact h3.store hP.hs (by rw [hP.len]; exact hP.lt) hr hrow ⟨sb, sc, rc, hv, d3⟩
/-- one leg has changed -/
theorem tag_ne {o : Own'} {k : Nat} {i j : Lid} (h : o k = .leg i ∨ o k = .sl i ∨ ∃ m, o k = .row i m) (hij : i ≠ j) : (∀ m, o k ≠ .row j m) ∧ o k ≠ .sl j ∧ o k ≠ .leg j := by
  refine ⟨fun m e => ?_, fun e => ?_, fun e => ?_⟩ <;> rcases h with h | h | ⟨_, h⟩ <;> rw [h] at e <;> first | (simp at e; done) | (simp at e; first | exact hij e | exact hij e.1)
theorem LegM.upd {w w' : World} {X : Nat → Prop} {o : Own'} {b n : Nat} {g : Stk} (h : LegM w o b n g) (hb : But w w' X) (ho : o b = .map) {i : Lid} {a : Nat} {q q' : Lg} (hq : g i = some q) (ha' : LegAt w' o i a q') (hX : ∀ k, X k → o k = .leg i ∨ o k = .sl i ∨ ∃ j, o k = .row i j)
    (hu : ∀ a2, o a2 = .leg i → a2 = a) : LegM w' o b n (updS g i q') := by
  obtain ⟨hh, ⟨es, clock, h1, h2⟩, h3⟩ := h
  refine ⟨hh, ⟨es, clock, (hb.block b (Array.getElem?_eq_some_iff.1 h1).1 (fun hx => ?_)).trans h1, h2⟩, fun j => ?_⟩
  · rcases hX b hx with e | e | ⟨_, e⟩ <;> rw [ho] at e <;> cases e
  · unfold updS
    by_cases e : j = i
    · subst e
      rw [if_pos rfl]
      have h4 := h3 j
      rw [hq] at h4
      obtain ⟨a2, e2, h5⟩ := h4
      obtain rfl := hu a2 h5.tag
      exact ⟨a2, e2, ha'⟩
    · rw [if_neg e]
      have h4 := h3 j
      revert h4
      cases g j with
      | none => exact id
      | some p =>
        rintro ⟨a2, e2, h5⟩
        exact ⟨a2, e2, h5.but hb (fun k hk => tag_ne (hX k hk) (fun h => e h.symm))⟩
/-- an inventory of which one leg has changed -/
theorem StkAt.upd {w w' : World} {X R : Nat → Prop} {o : Own'} {B n : Nat} {cs : List Cf} {g : Stk} (h : StkAt w R o B n cs g) (hb : But w w' X) {i : Lid} {a : Nat} {q q' : Lg} (hq : g i = some q) (ha : LegAt w o i a q) (ha' : LegAt w' o i a q') (hX : ∀ k, X k → o k = .leg i ∨ o k = .sl i ∨ ∃ j, o k = .row i j) : StkAt w' R o B n cs (updS g i q') := by
  obtain ⟨mc, ml, nc, h1, h2, h3, h4, h5, h6, h7⟩ := h.box
  have hX2 : ∀ k, X k → ¬ R k ∧ o k ≠ .obj := fun k hk => by
    rcases hX k hk with e | e | ⟨_, e⟩ <;> exact ⟨(h.ro k (by rw [e]; exact fun h => nomatch h)).1, by rw [e]; exact fun h => nomatch h⟩
  have hB : ¬ X B := fun hx => by
    rcases h.own with e | e
    · exact (hX2 B hx).1 e
    · exact (hX2 B hx).2 e
  refine ⟨⟨mc, ml, nc, but_cell hb h1 hB, but_cell hb h2 hB, h3, h4.same (hb.block mc h4.lt (fun hx => (hX2 _ hx).1 h3)), h5, h6, h7.upd hb h6 hq ha' hX (fun a2 e => h.uniq a2 a i e ha.tag)⟩, h.own, fun f hf => ⟨(h.cfs f hf).1.but hb (fun k hk => (hX2 k hk).1), (h.cfs f hf).2⟩, fun k hk => ⟨(h.ro k hk).1, Nat.lt_of_lt_of_le (h.ro k hk).2 hb.size⟩, fun k hk => Nat.lt_of_lt_of_le (h.rlt k hk) hb.size, h.uniq, fun a2 j hj => ?_⟩
  unfold updS
  split
  · rfl
  · exact h.liv a2 j hj
/-! ### add -/
theorem addG1_at {g : Stk} {c : ByteArray} {m : Int} {i : Lid} {q : Lg} (h : g i = some q) : addG1 g c m i = updS g i (q.add c m) := by unfold addG1; rw [h]
theorem OkG.addsG {K : Int} {cs : List Cf} {c : ByteArray} {m : Int} : ∀ (is : List Lid) (g : Stk), OkG (K + max m 0) cs g → is.Nodup → (∀ i ∈ is, ∃ q, g i = some q ∧ OkL K q ∧ q.has c = true ∧ 0 ≤ q.sold c + m) → OkG (K + max m 0) cs (addG g is c m)
  | [], g, h, _, _ => h
  | i :: r, g, h, hn, hi => by
    rw [List.nodup_cons] at hn
    obtain ⟨q, hq, hL, hc, hm⟩ := hi i (by simp)
    show OkG _ cs (addG (addG1 g c m i) r c m)
    rw [addG1_at hq]
    refine OkG.addsG r _ (h.upd (hL.add hc hm) (h.leg i q hq).2) hn.2 (fun j hj => ?_)
    obtain ⟨p, h1, h2⟩ := hi j (by simp [hj])
    have hne : ¬ j = i := fun e => hn.1 (by rw [← e]; exact hj)
    exact ⟨p, by unfold updS; rw [if_neg hne]; exact h1, h2⟩
set_option maxRecDepth 100000 in
set_option maxHeartbeats 4000000 in
theorem ladd_any (R : Nat → Prop) (o : Own') (B n : Nat) (cs : List Cf) (g : Stk) (K : Int) (A : Option Addr) (cc : Nat) (is : List Lid) (c : ByteArray) (m : Int) (w : World) (hS : StkAt w R o B n cs g) (hG : OkG K cs g) (hK : 0 ≤ K ∧ K ≤ 1000000000000) (hm : -1000000 ≤ m ∧ m ≤ 1000000) (hl : is.length ≤ 1000) (hok : ∀ i ∈ is, OkD i)
    (hL : ∀ W, But w W (MutB o) → LidL W (.slice A is.length cc) is) (hn : is.Nodup) (hi : ∀ i ∈ is, ∃ q, g i = some q ∧ q.has c = true ∧ 0 ≤ q.sold c + m) :
    Calls Tryz.prog 66 #[.pointer (some ⟨B, 0, none⟩), .slice A is.length cc, .string c, .int .i64 m] w fun e w' => e = .returned (.tuple #[]) ∧ StkAt w' R o B n cs (addG g is c m) ∧ But w w' (MutB o) := by
  have HL := Lib.hid hL
  have HG : Hid (∀ k, OkG (K + max m 0) cs (addG g (is.take k) c m)) := Lib.hid (fun k => OkG.addsG (is.take k) g (hG.mono (by have := Int.le_max_right m 0; omega)) (hn.sublist (List.take_sublist k is)) (fun i h => by
    obtain ⟨q, h1, h2, h3⟩ := hi i (List.mem_of_mem_take h)
    exact ⟨q, h1, (hG.leg i q h1).1, h2, h3⟩))
  have HX : Hid (∀ k i, is[k]? = some i → OkD i ∧ ∃ q, addG g (is.take k) c m i = some q ∧ q.has c = true ∧ addG g (is.take (k + 1)) c m = updS (addG g (is.take k) c m) i (q.add c m)) := Lib.hid (fun k i hk => by
    have hmem := List.mem_of_getElem? hk
    obtain ⟨q, h1, h2, _⟩ := hi i hmem
    have hno : i ∉ is.take k := fun h => by
      obtain ⟨hk1, rfl⟩ := List.getElem?_eq_some_iff.1 hk
      obtain ⟨j, hj, e⟩ := List.getElem_of_mem h
      rw [List.getElem_take] at e
      have hj2 : j < k := by rw [List.length_take] at hj; omega
      rw [List.nodup_iff_pairwise_ne, List.pairwise_iff_getElem] at hn
      exact hn j k (by omega) hk1 hj2 e
    have e1 : addG g (is.take k) c m i = some q := by rw [addG_no g c m i _ hno]; exact h1
    refine ⟨hok i hmem, q, e1, h2, ?_⟩
    rw [List.take_add_one, hk]
    show addG g (is.take k ++ [i]) c m = _
    rw [addG_snoc, addG1_at e1])
  have HKB : Hid (K + max m 0 ≤ 1000001000000) := Lib.hid (by have : max m 0 ≤ 1000000 := Int.max_le.2 ⟨hm.2, by omega⟩; omega)
  have HS : Hid (StkAt w R o B n cs (addG g (is.take 0) c m) ∧ But w w (MutB o)) := Lib.hid ⟨hS, But.refl _ _⟩
  obtain ⟨ln, hln⟩ : ∃ ln, ln = is.length := ⟨_, rfl⟩
  have HLN := Lib.hid hln
  have HEND : Hid (addG g (is.take ln) c m = addG g is c m) := Lib.hid (by rw [hln, List.take_length])
  rw [← hln] at HL hl ⊢
  clear hln hL hn hi hok hS hG hK
  go_enter Tryz.func66, Tryz.ntmps66
  go_wp2
  go_loopw [15] (fun vi wr => ∃ k : Nat, k ≤ ln ∧ vi = .int .i64 k ∧ Hid (StkAt wr R o B n cs (addG g (is.take k) c m) ∧ But w wr (MutB o))) (fun vi _ => ln - (intOf vi).toNat)
  case atStart => exact ⟨0, Nat.zero_le _, rfl, HS⟩
  case round =>
    obtain ⟨k, hk, rfl, HH⟩ := hrel
    by_cases hlt : k < ln
    · obtain ⟨x, hx⟩ : ∃ x, is[k]? = some x := ⟨_, List.getElem?_eq_getElem (by have := HLN.out; omega)⟩
      obtain ⟨hxd, q, hq, hc, hstep⟩ := HX.out k x hx
      obtain ⟨b0, o0, eA, _, hcc⟩ := row_get (HL.out wr HH.out.2) hx
      have z0 := hcc 0 _ rfl
      have z1 := hcc 1 _ rfl
      have z2 := hcc 2 _ rfl
      have z3 := hcc 3 _ rfl
      rw [Nat.add_zero] at z0
      rw [eA]
      have hbA := bel_alloc wr (.cells #[.string x.car, .int .i64 x.num, .int .i64 x.day, .string x.frm] lidT)
      obtain ⟨l0, l1, l2, l3⟩ := lid_new wr x
      have hS1 := HH.out.1.more hbA
      have K1 := Lib.hid (lplace_yes R o B n cs _ _ x q c _ hS1 (HG.out k) hxd hq hc)
      obtain ⟨b, s, y, hP⟩ := ((HG.out k).leg x q hq).1.plc hc
      have htot := ((HG.out k).leg x q hq).1
      have hlow := htot.low s (List.mem_of_getElem? hP.hs)
      have hy0 : 0 ≤ y := hlow y (List.mem_of_getElem? hP.hx)
      have hy1 : y ≤ 1000001000000 := by
        have h1 := (tot_each htot.low s (List.mem_of_getElem? hP.hs)).2
        have h2 := take_succ_sum hP.hx
        have h3 := sum_take_le hlow (q.ck c)
        have h4 := sum_take_le hlow (q.ck c + 1)
        have h5 := htot.tot
        have := HKB.out
        omega
      have KN : Hid (∀ W a, LegAt W o x a q → ∃ sb sc r rc, W.cell? ⟨a, 2, none⟩ = some (.slice (some ⟨sb, 0, none⟩) q.so.length sc) ∧ W.cell? ⟨sb, q.ci c, none⟩ = some (.slice (some ⟨r, 0, none⟩) s.length rc) ∧ W.cell? ⟨r, q.ck c, none⟩ = some (.int .i64 y) ∧ o r = .row x (q.ci c) ∧ Row W r s ∧ q.ci c < q.so.length ∧ q.ck c < s.length) := Lib.hid (fun W a h => h.num hP)
      have HFIN : Hid (∀ W a sb sc r rc, Below (wr.alloc (.cells #[.string x.car, .int .i64 x.num, .int .i64 x.day, .string x.frm] lidT)).heap.size (wr.alloc (.cells #[.string x.car, .int .i64 x.num, .int .i64 x.day, .string x.frm] lidT)) W → LegAt W o x a q → W.cell? ⟨a, 2, none⟩ = some (.slice (some ⟨sb, 0, none⟩) q.so.length sc) → W.cell? ⟨sb, q.ci c, none⟩ = some (.slice (some ⟨r, 0, none⟩) s.length rc) → o r = .row x (q.ci c) → Row W r s →
          StkAt (W.setCell ⟨r, q.ck c, none⟩ (.int .i64 (y + m))) R o B n cs (addG g (is.take (k + 1)) c m) ∧ But w (W.setCell ⟨r, q.ck c, none⟩ (.int .i64 (y + m))) (MutB o)) := Lib.hid (fun W a sb sc r rc hW ha d2 d3 hr hrow => by
        have hbut := But.setCell W r (q.ck c) (.int .i64 (y + m))
        refine ⟨?_, ?_⟩
        · rw [hstep]
          exact (hS1.more hW).upd hbut hq ha (ha.store hP d2 d3 hr hrow m) (fun k' e => by cases e; exact .inr (.inr ⟨_, hr⟩))
        · refine (HH.out.2.trans (But.of_below (X := MutB o) (hbA.trans (hW.mono hbA.size))) (fun _ _ h => h)).trans hbut (fun k' _ e => ?_)
          cases e
          unfold MutB
          rw [hr]
          trivial)
      have hwr := IntWalk.i64_in (n := y + m) (by omega)
      have i2 : (k : Int) < (ln : Int) := by omega
      clear hx hq hc hstep hcc hbA hS1 hP htot hlow HH
      generalize q.ci c = ni at *
      generalize q.ck c = nk at *
      go_upto_region 3 with fail
      clear z0 z1 z2 z3
      generalize wr.alloc (.cells #[.string x.car, .int .i64 x.num, .int .i64 x.day, .string x.frm] lidT) = w5 at *
      go_upto_region 4 with (go_at_call 58; refine K1.out.mono ?_; rintro e w6 ⟨a, rfl, ha, hb6⟩)
      obtain ⟨sb, sc, r, rc, d2, d3, d4, hr, hrow, d5, d6⟩ := KN.out _ _ ha
      have hfz := hrow.froz nk d6
      have i3 : (0 : Int) ≤ (ni : Int) := by omega
      have i4 : (ni : Int) < (q.so.length : Int) := by omega
      have i5 : (0 : Int) ≤ (nk : Int) := by omega
      have i6 : (nk : Int) < (s.length : Int) := by omega
      have HZ := Lib.hid (HFIN.out w6 a sb sc r rc hb6 ha d2 d3 hr hrow)
      clear ha hr hrow d5 d6
      go_wp2
      go_roundw
      case rel => exact ⟨k + 1, by omega, by go_num, HZ⟩
      case measure => simp [intOf]; omega
    · obtain rfl : k = ln := by omega
      have HZ : Hid (StkAt wr R o B n cs (addG g is c m) ∧ But w wr (MutB o)) := Lib.hid (by rw [← HEND.out]; exact HH.out)
      clear HH
      go_wp2
      refine bodyPost_end (results_none rfl _ _ _) rfl ⟨rfl, HZ.out.1, HZ.out.2⟩
end Go.Proofs.YtjmahmeionakaaaGreatDoor
