/- Walks of search.before and search.after. -/
import Derived.Test.YtkcdifanhdakhaaDoorConT
import Derived.BigQuiet
namespace Go.Proofs.YtkcdifanhdakhaaDoor.Con
open Go.RowKit Go.Shelf
set_option linter.unusedSimpArgs false
set_option linter.unusedVariables false

structure Wd (S : World → Prop) where
  w : World
  ok : S w
theorem quietS {P : Program} {S : World → Prop} {id : Nat} {Q : Exit → Act → World → Prop} {a : Act} {w : World} {l : List Oper} (hm : P.follows .mixedOrders = true) (hB : Region.lexB .any l.toArray = true) (hC : S w.drew)
    (h : wpQuiet P l.toArray (fun w' => ∃ x : Wd S, w' = x.w) (fun a' => ∀ w', (∃ x : Wd S, w' = x.w) → Q .normal a' w') l a) : (Code.region id l.toArray true).wp P Q a w :=
  wp_region_quiet (C := fun w' => ∃ x : Wd S, w' = x.w) hm hB ⟨⟨_, hC⟩, rfl⟩ (by simpa using h)
theorem quiet_S {P : Program} {f : FuncId} {args : Array Value} {W : World} {S : World → Prop} {v : Value} (h : Calls P f args W fun e w' => e = .returned v ∧ S w') :
    Calls P f args W fun e w'' => e = .returned v ∧ ∃ x : Wd S, w'' = x.w := h.mono (by rintro e w' ⟨he, hs⟩; exact ⟨he, ⟨w', hs⟩, rfl⟩)
theorem sw_call {f : Nat} {args : Array Value} {w5 : World} {v : Value} (h : ∀ W, SW w5 W → Calls Tryd.prog f args W fun e w' => e = .returned v ∧ Below W.heap.size W w') (W : World) (hS : SW w5 W) :
    Calls Tryd.prog f args W fun e w' => e = .returned v ∧ SW w5 w' := (h W hS).mono (by rintro e w' ⟨he, hb⟩; exact ⟨he, Below.trans hS (Below.mono hb hS.size)⟩)
/-- a row of numbers of somebody's own -/
def RowN (w : World) (v : Value) (l : List Nat) : Prop := ∃ lo, ROwn inT 1 encN lo w v l
theorem filter_take {α : Type} (p : α → Bool) (l : List α) (k : Nat) (x : α) (h : l[k]? = some x) : (l.take (k + 1)).filter p = (l.take k).filter p ++ (if p x then [x] else []) := by
  rw [List.take_add_one, h, List.filter_append]
  congr 1
  simp only [Option.toList]
  rw [List.filter_cons]
  cases p x <;> simp

set_option maxRecDepth 100000 in
set_option maxHeartbeats 16000000 in
theorem before_any (Al : Option Addr) (cl : Nat) (l : List Cn) (As : Option Addr) (cs : Nat) (S : List Sg) (fr dn : ByteArray) (m1 m2 : Nat) (V : Ky → Value) (i : Nat) (w : World) (hl : CnL w (.slice Al l.length cl) l) (hv : SgL w (.slice As S.length cs) S) (hq : SQ w m1 m2 V (kyL S fr dn S.length))
    (hn : S.length ≤ 200) (hln : l.length ≤ 1000) (hz : ∀ s ∈ S, s.f.size ≤ maxLen ∧ s.t.size ≤ maxLen) (ht : ∀ s ∈ S, tmB s) (hi : i < S.length) :
    Calls Tryd.prog 35 #[.agg #[.slice Al l.length cl, .slice As S.length cs, V .o, .map (some m1), V .m, V .l, .map (some m2)], .int .i64 (i : Int)] w fun e w' => ∃ v, e = .returned v ∧ RowN w' v (befP l S fr dn i) ∧ Below w.heap.size w w' := by
  obtain ⟨ao, co, eo, _⟩ := hq.rows .o
  obtain ⟨am, cm, em, _⟩ := hq.rows .m
  obtain ⟨al, cl', el, _⟩ := hq.rows .l
  rw [eo, em, el]
  generalize (kyL S fr dn S.length .o).length = no
  generalize (kyL S fr dn S.length .m).length = nm
  generalize (kyL S fr dn S.length .l).length = nl
  have hbx := bel_alloc w (.cells #[.slice Al l.length cl, .slice As S.length cs, .slice ao no co, .map (some m1), .slice am nm cm, .slice al nl cl', .map (some m2)] srT)
  have q0 := (cells_new w #[.slice Al l.length cl, .slice As S.length cs, .slice ao no co, .map (some m1), .slice am nm cm, .slice al nl cl', .map (some m2)] srT 0).trans (show _ = some (Value.slice Al l.length cl) from rfl)
  have q1 := (cells_new w #[.slice Al l.length cl, .slice As S.length cs, .slice ao no co, .map (some m1), .slice am nm cm, .slice al nl cl', .map (some m2)] srT 1).trans (show _ = some (Value.slice As S.length cs) from rfl)
  have q3 := (cells_new w #[.slice Al l.length cl, .slice As S.length cs, .slice ao no co, .map (some m1), .slice am nm cm, .slice al nl cl', .map (some m2)] srT 3).trans (show _ = some (Value.map (some m1)) from rfl)
  have HL := Lib.hid (hl.more hbx)
  have HV := Lib.hid (hv.more hbx)
  have HQ := Lib.hid (sq_more hq hbx)
  have HT := Lib.hid ht
  have HZ := Lib.hid hz
  have HI := Lib.hid hi
  have hx := sA_get hi
  have HBX := Lib.hid hbx
  obtain ⟨B, hB⟩ : ∃ B, B = w.heap.size := ⟨_, rfl⟩
  rw [← hB] at q0 q1 q3
  have HBB := Lib.hid hB
  go_enter Tryd.func35, Tryd.ntmps35
  go_upto_region 2 with fail
  rw [← hB]
  generalize w.alloc (.cells #[.slice Al l.length cl, .slice As S.length cs, .slice ao no co, .map (some m1), .slice am nm cm, .slice al nl cl', .map (some m2)] srT) = w5 at *
  clear hl hv hq ht hz hB hbx eo em el
  obtain ⟨bb, off, e1, hbl, hc⟩ := row_get HV.out hx
  cases e1
  have i2 : (i : Int) < (S.length : Int) := by omega
  have g0 := hc 0 _ rfl
  have g1 := hc 1 _ rfl
  have g2 := hc 2 _ rfl
  have g3 := hc 3 _ rfl
  have g4 := hc 4 _ rfl
  have g5 := hc 5 _ rfl
  have g6 := hc 6 _ rfl
  rw [Nat.add_zero] at g0
  have HTI := Lib.hid (HT.out _ (List.mem_of_getElem? hx))
  have HZI := Lib.hid (HZ.out _ (List.mem_of_getElem? hx))
  have HO : Hid (befP l S fr dn i = (kyL S fr dn S.length (.f (sA S i).f)).filter fun j => fitB l (sA S j) (sA S i)) := Lib.hid rfl
  have HLT : Hid (∀ j ∈ kyL S fr dn S.length (.f (sA S i).f), j < S.length) := Lib.hid (fun j hj => (ix_lt hj).1)
  generalize sA S i = si at *
  obtain ⟨icar, inum, iday, sif, sit, idep, iarr⟩ := si
  dsimp only at g0 g1 g2 g3 g4 g5 g6 HZI HO HLT
  obtain ⟨af, cf, ef, hf⟩ := HQ.out.rows (.f sif)
  have HF := Lib.hid (HQ.out.rows (.f sif))
  have HLK : Hid (∀ x : Wd (SW w5), (Instr.lookup 61 (.map (some m1)) (.string sif) false).run Tryd.prog x.w = .ok (V (.f sif)) x.w) := Lib.hid (fun x => sq_look1 (sq_more HQ.out x.ok) sif HZI.out.1)
  rw [ef] at HF HLK
  have HFN : Hid ((kyL S fr dn S.length (.f sif)).length ≤ 1000) := Lib.hid (Nat.le_trans (kyL_len _ _ _ _ _) (by omega))
  generalize kyL S fr dn S.length (.f sif) = F at *
  have f0 : ∀ x : Wd (SW w5), x.w.cell? ⟨B, 0, none⟩ = some (Value.slice Al l.length cl) := fun x => bel_get q0 _ x.ok
  have f1 : ∀ x : Wd (SW w5), x.w.cell? ⟨B, 1, none⟩ = some (Value.slice (some ⟨bb, off, none⟩) S.length cs) := fun x => bel_get q1 _ x.ok
  have f3 : ∀ x : Wd (SW w5), x.w.cell? ⟨B, 3, none⟩ = some (Value.map (some m1)) := fun x => bel_get q3 _ x.ok
  have h3 : ∀ x : Wd (SW w5), x.w.cell? ⟨bb, off + i * 7 + 3, none⟩ = some (Value.string sif) := fun x => bel_get g3 _ x.ok
  have hS0 : SW w5 w5.drew := (Below.refl _ _).drew
  have lk := HLK.out
  clear ef hf hx hc hbl hi
  have hNe : Nonempty (Wd (SW w5)) := ⟨⟨_, hS0⟩⟩
  refine quietS (S := SW w5) (by kernel_rfl) (by kernel_rfl) (hS0) ?_
  repeat (first | go_big_quiet_skip | (go_big_quiet_want; go_big_quiet_op; first | go_big_quiet_on | go_big_quiet_call ((fail))))
  refine wpQuiet_nil ?_
  rintro W ⟨⟨_, hW⟩, rfl⟩
  clear lk f0 f1 f3 h3
  generalize hFN : F.length = fn at *
  have HFE := Lib.hid hFN
  clear hFN
  have hfn := HFN.out
  go_wp2
  go_loopw [5, 18] (fun v5 vi wr => ∃ (k : Nat), k ≤ fn ∧ vi = .int .i64 k ∧ Hid (ROwn inT 1 encN w5.heap.size wr v5 ((F.take k).filter fun j => fitB l (sA S j) ⟨icar, inum, iday, sif, sit, idep, iarr⟩)) ∧ SW w5 wr) (fun _ vi _ => fn - (intOf vi).toNat)
  case atStart => exact ⟨0, Nat.zero_le _, rfl, Lib.hid (ROwn.nil hW.size), hW⟩
  case round =>
    obtain ⟨k, hk, rfl, HR, hS⟩ := hrel
    by_cases hlt : k < fn
    · have hlt2 : k < F.length := by have := HFE.out; omega
      obtain ⟨j, hj⟩ : ∃ j, F[k]? = some j := ⟨_, List.getElem?_eq_getElem hlt2⟩
      have hjl := HLT.out j (List.mem_of_getElem? hj)
      have hFr := HF.out.more hS
      obtain ⟨b3, o3, e3, hb3, hc3⟩ := row_get hFr hj
      cases e3
      have r0 := hc3 0 _ rfl
      rw [Nat.add_zero, Nat.mul_one] at r0
      have hx := sA_get hjl
      obtain ⟨b4, o4, e4, hb4, hc4⟩ := row_get (HV.out.more hS) hx
      cases e4
      have HTJ := Lib.hid (HT.out _ (List.mem_of_getElem? hx))
      have HFT := Lib.hid (filter_take (fun j => fitB l (sA S j) ⟨icar, inum, iday, sif, sit, idep, iarr⟩) F k j hj)
      have i3 : (k : Int) < (fn : Int) := by omega
      have i4 : (j : Int) < (S.length : Int) := by omega
      try dsimp only at HFT
      have d0 := hc4 0 _ rfl
      have d1 := hc4 1 _ rfl
      have d2 := hc4 2 _ rfl
      have d3 := hc4 3 _ rfl
      have d4 := hc4 4 _ rfl
      have d5 := hc4 5 _ rfl
      have d6 := hc4 6 _ rfl
      rw [Nat.add_zero] at d0
      generalize sA S j = sj at *
      obtain ⟨jcar, jnum, jday, sjf, sjt, jdep, jarr⟩ := sj
      dsimp only at d0 d1 d2 d3 d4 d5 d6
      have K0 := Lib.hid (fun W (h : SW wr W) => sw_call (fun W2 h2 => fits_any (.slice Al l.length cl) l ⟨jcar, jnum, jday, sjf, sjt, jdep, jarr⟩ ⟨icar, inum, iday, sif, sit, idep, iarr⟩ W2 (HL.out.more (Below.trans hS (Below.mono h2 hS.size))) hln HTJ.out HTI.out) W h)
      have f0 : ∀ x : Wd (SW wr), x.w.cell? ⟨B, 0, none⟩ = some (Value.slice Al l.length cl) := fun x => bel_get (bel_get q0 _ hS) _ x.ok
      have f1 : ∀ x : Wd (SW wr), x.w.cell? ⟨B, 1, none⟩ = some (Value.slice (some ⟨bb, off, none⟩) S.length cs) := fun x => bel_get (bel_get q1 _ hS) _ x.ok

      have u0 : ∀ x : Wd (SW wr), x.w.cell? ⟨bb, off + i * 7, none⟩ = some (Value.string icar) := fun x => bel_get (bel_get g0 _ hS) _ x.ok
      have v0 : ∀ x : Wd (SW wr), x.w.cell? ⟨bb, off + j * 7, none⟩ = some (Value.string jcar) := fun x => bel_get d0 _ x.ok
      have u1 : ∀ x : Wd (SW wr), x.w.cell? ⟨bb, off + i * 7 + 1, none⟩ = some (Value.int .i64 inum) := fun x => bel_get (bel_get g1 _ hS) _ x.ok
      have v1 : ∀ x : Wd (SW wr), x.w.cell? ⟨bb, off + j * 7 + 1, none⟩ = some (Value.int .i64 jnum) := fun x => bel_get d1 _ x.ok
      have u2 : ∀ x : Wd (SW wr), x.w.cell? ⟨bb, off + i * 7 + 2, none⟩ = some (Value.int .i64 iday) := fun x => bel_get (bel_get g2 _ hS) _ x.ok
      have v2 : ∀ x : Wd (SW wr), x.w.cell? ⟨bb, off + j * 7 + 2, none⟩ = some (Value.int .i64 jday) := fun x => bel_get d2 _ x.ok
      have u3 : ∀ x : Wd (SW wr), x.w.cell? ⟨bb, off + i * 7 + 3, none⟩ = some (Value.string sif) := fun x => bel_get (bel_get g3 _ hS) _ x.ok
      have v3 : ∀ x : Wd (SW wr), x.w.cell? ⟨bb, off + j * 7 + 3, none⟩ = some (Value.string sjf) := fun x => bel_get d3 _ x.ok
      have u4 : ∀ x : Wd (SW wr), x.w.cell? ⟨bb, off + i * 7 + 4, none⟩ = some (Value.string sit) := fun x => bel_get (bel_get g4 _ hS) _ x.ok
      have v4 : ∀ x : Wd (SW wr), x.w.cell? ⟨bb, off + j * 7 + 4, none⟩ = some (Value.string sjt) := fun x => bel_get d4 _ x.ok
      have u5 : ∀ x : Wd (SW wr), x.w.cell? ⟨bb, off + i * 7 + 5, none⟩ = some (Value.int .i64 idep) := fun x => bel_get (bel_get g5 _ hS) _ x.ok
      have v5 : ∀ x : Wd (SW wr), x.w.cell? ⟨bb, off + j * 7 + 5, none⟩ = some (Value.int .i64 jdep) := fun x => bel_get d5 _ x.ok
      have u6 : ∀ x : Wd (SW wr), x.w.cell? ⟨bb, off + i * 7 + 6, none⟩ = some (Value.int .i64 iarr) := fun x => bel_get (bel_get g6 _ hS) _ x.ok
      have v6 : ∀ x : Wd (SW wr), x.w.cell? ⟨bb, off + j * 7 + 6, none⟩ = some (Value.int .i64 jarr) := fun x => bel_get d6 _ x.ok
      have hS1 : SW wr wr.drew := (Below.refl _ _).drew
      have HJ := Lib.hid hj
      clear hx hc4 hc3 hb3 hb4 hFr hj
      cases hp : fitB l ⟨jcar, jnum, jday, sjf, sjt, jdep, jarr⟩ ⟨icar, inum, iday, sif, sit, idep, iarr⟩ with
      | false =>
        rw [hp] at K0 HFT
        go_upto_region 5 with fail
        have hNe : Nonempty (Wd (SW wr)) := ⟨⟨_, hS1⟩⟩
        refine quietS (S := SW wr) (by kernel_rfl) (by kernel_rfl) (hS1) ?_
        repeat (first | go_big_quiet_skip | (go_big_quiet_want; go_big_quiet_op; first | go_big_quiet_on | go_big_quiet_call (((go_at_call 12; exact quiet_S (K0.out _ (Wd.ok _)))))))
        refine wpQuiet_nil ?_
        rintro W ⟨⟨_, hW⟩, rfl⟩
        clear f0 f1 u0 v0 u1 v1 u2 v2 u3 v3 u4 v4 u5 v5 u6 v6
        go_wp2
        go_roundw
        case rel => exact ⟨k + 1, by omega, by go_num, Lib.hid (by rw [HFT.out]; simp only [Bool.false_eq_true, if_false, List.append_nil]; exact HR.out.more hW), Below.trans hS (Below.mono hW hS.size)⟩
        case measure => simp [intOf]; omega
      | true =>
        rw [hp] at K0 HFT
        go_upto_region 5 with fail
        have hNe : Nonempty (Wd (SW wr)) := ⟨⟨_, hS1⟩⟩
        refine quietS (S := SW wr) (by kernel_rfl) (by kernel_rfl) (hS1) ?_
        repeat (first | go_big_quiet_skip | (go_big_quiet_want; go_big_quiet_op; first | go_big_quiet_on | go_big_quiet_call (((go_at_call 12; exact quiet_S (K0.out _ (Wd.ok _)))))))
        refine wpQuiet_nil ?_
        rintro W ⟨⟨_, hW⟩, rfl⟩
        clear f0 f1 u0 v0 u1 v1 u2 v2 u3 v3 u4 v4 u5 v5 u6 v6
        have HRW := Lib.hid (HR.out.more hW)
        have HLE : Hid ((List.filter (fun j => fitB l (sA S j) ⟨icar, inum, iday, sif, sit, idep, iarr⟩) (List.take k F)).length ≤ 100000000) := Lib.hid (Nat.le_trans (List.length_filter_le _ _) (by rw [List.length_take]; omega))
        go_wp2_with (at_builtin; refine wpList_rapp rtN rfl _ _ rfl HRW.out rfl (bel_alloc _ _) _ j _ rfl (cs := #[.int .i64 (j : Int)]) rfl (heap_alloc_new _ _) HLE.out ?_; intro v8 w8 hO hC)
        go_roundw
        case rel => exact ⟨k + 1, by omega, by go_num, Lib.hid (by rw [HFT.out]; exact hO), Below.trans (Below.trans hS (Below.mono hW hS.size)) (hC.below HRW.out)⟩
        case measure => simp [intOf]; omega
    · have e : k = fn := by omega
      subst e
      have i5 : ¬ (k : Int) < (k : Int) := by omega
      go_wp2
      go_ret
      refine ⟨_, rfl, ⟨w5.heap.size, ?_⟩, by have h1 := HBX.out; exact h1.trans (Below.mono hS h1.size)⟩
      have h := HR.out
      rw [← HFE.out, List.take_length] at h
      rw [HO.out]
      exact h

set_option maxRecDepth 100000 in
set_option maxHeartbeats 16000000 in
theorem after_any (Al : Option Addr) (cl : Nat) (l : List Cn) (As : Option Addr) (cs : Nat) (S : List Sg) (fr dn : ByteArray) (m1 m2 : Nat) (V : Ky → Value) (i : Nat) (w : World) (hl : CnL w (.slice Al l.length cl) l) (hv : SgL w (.slice As S.length cs) S) (hq : SQ w m1 m2 V (kyL S fr dn S.length))
    (hn : S.length ≤ 200) (hln : l.length ≤ 1000) (hz : ∀ s ∈ S, s.f.size ≤ maxLen ∧ s.t.size ≤ maxLen) (ht : ∀ s ∈ S, tmB s) (hi : i < S.length) :
    Calls Tryd.prog 36 #[.agg #[.slice Al l.length cl, .slice As S.length cs, V .o, .map (some m1), V .m, V .l, .map (some m2)], .int .i64 (i : Int)] w fun e w' => ∃ v, e = .returned v ∧ RowN w' v (aftP l S fr dn i) ∧ Below w.heap.size w w' := by
  obtain ⟨ao, co, eo, _⟩ := hq.rows .o
  obtain ⟨am, cm, em, _⟩ := hq.rows .m
  obtain ⟨al, cl', el, _⟩ := hq.rows .l
  rw [eo, em, el]
  generalize (kyL S fr dn S.length .o).length = no
  generalize (kyL S fr dn S.length .m).length = nm
  generalize (kyL S fr dn S.length .l).length = nl
  have hbx := bel_alloc w (.cells #[.slice Al l.length cl, .slice As S.length cs, .slice ao no co, .map (some m1), .slice am nm cm, .slice al nl cl', .map (some m2)] srT)
  have q0 := (cells_new w #[.slice Al l.length cl, .slice As S.length cs, .slice ao no co, .map (some m1), .slice am nm cm, .slice al nl cl', .map (some m2)] srT 0).trans (show _ = some (Value.slice Al l.length cl) from rfl)
  have q1 := (cells_new w #[.slice Al l.length cl, .slice As S.length cs, .slice ao no co, .map (some m1), .slice am nm cm, .slice al nl cl', .map (some m2)] srT 1).trans (show _ = some (Value.slice As S.length cs) from rfl)
  have q6 := (cells_new w #[.slice Al l.length cl, .slice As S.length cs, .slice ao no co, .map (some m1), .slice am nm cm, .slice al nl cl', .map (some m2)] srT 6).trans (show _ = some (Value.map (some m2)) from rfl)
  have HL := Lib.hid (hl.more hbx)
  have HV := Lib.hid (hv.more hbx)
  have HQ := Lib.hid (sq_more hq hbx)
  have HT := Lib.hid ht
  have HZ := Lib.hid hz
  have HI := Lib.hid hi
  have hx := sA_get hi
  have HBX := Lib.hid hbx
  obtain ⟨B, hB⟩ : ∃ B, B = w.heap.size := ⟨_, rfl⟩
  rw [← hB] at q0 q1 q6
  have HBB := Lib.hid hB
  go_enter Tryd.func36, Tryd.ntmps36
  go_upto_region 2 with fail
  rw [← hB]
  generalize w.alloc (.cells #[.slice Al l.length cl, .slice As S.length cs, .slice ao no co, .map (some m1), .slice am nm cm, .slice al nl cl', .map (some m2)] srT) = w5 at *
  clear hl hv hq ht hz hB hbx eo em el
  obtain ⟨bb, off, e1, hbl, hc⟩ := row_get HV.out hx
  cases e1
  have i2 : (i : Int) < (S.length : Int) := by omega
  have g0 := hc 0 _ rfl
  have g1 := hc 1 _ rfl
  have g2 := hc 2 _ rfl
  have g3 := hc 3 _ rfl
  have g4 := hc 4 _ rfl
  have g5 := hc 5 _ rfl
  have g6 := hc 6 _ rfl
  rw [Nat.add_zero] at g0
  have HTI := Lib.hid (HT.out _ (List.mem_of_getElem? hx))
  have HZI := Lib.hid (HZ.out _ (List.mem_of_getElem? hx))
  have HO : Hid (aftP l S fr dn i = (kyL S fr dn S.length (.t (sA S i).t)).filter fun j => fitB l (sA S i) (sA S j)) := Lib.hid rfl
  have HLT : Hid (∀ j ∈ kyL S fr dn S.length (.t (sA S i).t), j < S.length) := Lib.hid (fun j hj => (ix_lt hj).1)
  generalize sA S i = si at *
  obtain ⟨icar, inum, iday, sif, sit, idep, iarr⟩ := si
  dsimp only at g0 g1 g2 g3 g4 g5 g6 HZI HO HLT
  obtain ⟨af, cf, ef, hf⟩ := HQ.out.rows (.t sit)
  have HF := Lib.hid (HQ.out.rows (.t sit))
  have HLK : Hid (∀ x : Wd (SW w5), (Instr.lookup 61 (.map (some m2)) (.string sit) false).run Tryd.prog x.w = .ok (V (.t sit)) x.w) := Lib.hid (fun x => sq_look2 (sq_more HQ.out x.ok) sit HZI.out.2)
  rw [ef] at HF HLK
  have HFN : Hid ((kyL S fr dn S.length (.t sit)).length ≤ 1000) := Lib.hid (Nat.le_trans (kyL_len _ _ _ _ _) (by omega))
  generalize kyL S fr dn S.length (.t sit) = F at *
  have f0 : ∀ x : Wd (SW w5), x.w.cell? ⟨B, 0, none⟩ = some (Value.slice Al l.length cl) := fun x => bel_get q0 _ x.ok
  have f1 : ∀ x : Wd (SW w5), x.w.cell? ⟨B, 1, none⟩ = some (Value.slice (some ⟨bb, off, none⟩) S.length cs) := fun x => bel_get q1 _ x.ok
  have f6 : ∀ x : Wd (SW w5), x.w.cell? ⟨B, 6, none⟩ = some (Value.map (some m2)) := fun x => bel_get q6 _ x.ok
  have h4 : ∀ x : Wd (SW w5), x.w.cell? ⟨bb, off + i * 7 + 4, none⟩ = some (Value.string sit) := fun x => bel_get g4 _ x.ok
  have hS0 : SW w5 w5.drew := (Below.refl _ _).drew
  have lk := HLK.out
  clear ef hf hx hc hbl hi
  have hNe : Nonempty (Wd (SW w5)) := ⟨⟨_, hS0⟩⟩
  refine quietS (S := SW w5) (by kernel_rfl) (by kernel_rfl) (hS0) ?_
  repeat (first | go_big_quiet_skip | (go_big_quiet_want; go_big_quiet_op; first | go_big_quiet_on | go_big_quiet_call ((fail))))
  refine wpQuiet_nil ?_
  rintro W ⟨⟨_, hW⟩, rfl⟩
  clear lk f0 f1 f6 h4
  generalize hFN : F.length = fn at *
  have HFE := Lib.hid hFN
  clear hFN
  have hfn := HFN.out
  go_wp2
  go_loopw [5, 18] (fun v5 vi wr => ∃ (k : Nat), k ≤ fn ∧ vi = .int .i64 k ∧ Hid (ROwn inT 1 encN w5.heap.size wr v5 ((F.take k).filter fun j => fitB l ⟨icar, inum, iday, sif, sit, idep, iarr⟩ (sA S j))) ∧ SW w5 wr) (fun _ vi _ => fn - (intOf vi).toNat)
  case atStart => exact ⟨0, Nat.zero_le _, rfl, Lib.hid (ROwn.nil hW.size), hW⟩
  case round =>
    obtain ⟨k, hk, rfl, HR, hS⟩ := hrel
    by_cases hlt : k < fn
    · have hlt2 : k < F.length := by have := HFE.out; omega
      obtain ⟨j, hj⟩ : ∃ j, F[k]? = some j := ⟨_, List.getElem?_eq_getElem hlt2⟩
      have hjl := HLT.out j (List.mem_of_getElem? hj)
      have hFr := HF.out.more hS
      obtain ⟨b3, o3, e3, hb3, hc3⟩ := row_get hFr hj
      cases e3
      have r0 := hc3 0 _ rfl
      rw [Nat.add_zero, Nat.mul_one] at r0
      have hx := sA_get hjl
      obtain ⟨b4, o4, e4, hb4, hc4⟩ := row_get (HV.out.more hS) hx
      cases e4
      have HTJ := Lib.hid (HT.out _ (List.mem_of_getElem? hx))
      have HFT := Lib.hid (filter_take (fun j => fitB l ⟨icar, inum, iday, sif, sit, idep, iarr⟩ (sA S j)) F k j hj)
      have i3 : (k : Int) < (fn : Int) := by omega
      have i4 : (j : Int) < (S.length : Int) := by omega
      try dsimp only at HFT
      have d0 := hc4 0 _ rfl
      have d1 := hc4 1 _ rfl
      have d2 := hc4 2 _ rfl
      have d3 := hc4 3 _ rfl
      have d4 := hc4 4 _ rfl
      have d5 := hc4 5 _ rfl
      have d6 := hc4 6 _ rfl
      rw [Nat.add_zero] at d0
      generalize sA S j = sj at *
      obtain ⟨jcar, jnum, jday, sjf, sjt, jdep, jarr⟩ := sj
      dsimp only at d0 d1 d2 d3 d4 d5 d6
      have K0 := Lib.hid (fun W (h : SW wr W) => sw_call (fun W2 h2 => fits_any (.slice Al l.length cl) l ⟨icar, inum, iday, sif, sit, idep, iarr⟩ ⟨jcar, jnum, jday, sjf, sjt, jdep, jarr⟩ W2 (HL.out.more (Below.trans hS (Below.mono h2 hS.size))) hln HTI.out HTJ.out) W h)
      have f0 : ∀ x : Wd (SW wr), x.w.cell? ⟨B, 0, none⟩ = some (Value.slice Al l.length cl) := fun x => bel_get (bel_get q0 _ hS) _ x.ok
      have f1 : ∀ x : Wd (SW wr), x.w.cell? ⟨B, 1, none⟩ = some (Value.slice (some ⟨bb, off, none⟩) S.length cs) := fun x => bel_get (bel_get q1 _ hS) _ x.ok

      have u0 : ∀ x : Wd (SW wr), x.w.cell? ⟨bb, off + i * 7, none⟩ = some (Value.string icar) := fun x => bel_get (bel_get g0 _ hS) _ x.ok
      have v0 : ∀ x : Wd (SW wr), x.w.cell? ⟨bb, off + j * 7, none⟩ = some (Value.string jcar) := fun x => bel_get d0 _ x.ok
      have u1 : ∀ x : Wd (SW wr), x.w.cell? ⟨bb, off + i * 7 + 1, none⟩ = some (Value.int .i64 inum) := fun x => bel_get (bel_get g1 _ hS) _ x.ok
      have v1 : ∀ x : Wd (SW wr), x.w.cell? ⟨bb, off + j * 7 + 1, none⟩ = some (Value.int .i64 jnum) := fun x => bel_get d1 _ x.ok
      have u2 : ∀ x : Wd (SW wr), x.w.cell? ⟨bb, off + i * 7 + 2, none⟩ = some (Value.int .i64 iday) := fun x => bel_get (bel_get g2 _ hS) _ x.ok
      have v2 : ∀ x : Wd (SW wr), x.w.cell? ⟨bb, off + j * 7 + 2, none⟩ = some (Value.int .i64 jday) := fun x => bel_get d2 _ x.ok
      have u3 : ∀ x : Wd (SW wr), x.w.cell? ⟨bb, off + i * 7 + 3, none⟩ = some (Value.string sif) := fun x => bel_get (bel_get g3 _ hS) _ x.ok
      have v3 : ∀ x : Wd (SW wr), x.w.cell? ⟨bb, off + j * 7 + 3, none⟩ = some (Value.string sjf) := fun x => bel_get d3 _ x.ok
      have u4 : ∀ x : Wd (SW wr), x.w.cell? ⟨bb, off + i * 7 + 4, none⟩ = some (Value.string sit) := fun x => bel_get (bel_get g4 _ hS) _ x.ok
      have v4 : ∀ x : Wd (SW wr), x.w.cell? ⟨bb, off + j * 7 + 4, none⟩ = some (Value.string sjt) := fun x => bel_get d4 _ x.ok
      have u5 : ∀ x : Wd (SW wr), x.w.cell? ⟨bb, off + i * 7 + 5, none⟩ = some (Value.int .i64 idep) := fun x => bel_get (bel_get g5 _ hS) _ x.ok
      have v5 : ∀ x : Wd (SW wr), x.w.cell? ⟨bb, off + j * 7 + 5, none⟩ = some (Value.int .i64 jdep) := fun x => bel_get d5 _ x.ok
      have u6 : ∀ x : Wd (SW wr), x.w.cell? ⟨bb, off + i * 7 + 6, none⟩ = some (Value.int .i64 iarr) := fun x => bel_get (bel_get g6 _ hS) _ x.ok
      have v6 : ∀ x : Wd (SW wr), x.w.cell? ⟨bb, off + j * 7 + 6, none⟩ = some (Value.int .i64 jarr) := fun x => bel_get d6 _ x.ok
      have hS1 : SW wr wr.drew := (Below.refl _ _).drew
      have HJ := Lib.hid hj
      clear hx hc4 hc3 hb3 hb4 hFr hj
      cases hp : fitB l ⟨icar, inum, iday, sif, sit, idep, iarr⟩ ⟨jcar, jnum, jday, sjf, sjt, jdep, jarr⟩ with
      | false =>
        rw [hp] at K0 HFT
        go_upto_region 5 with fail
        have hNe : Nonempty (Wd (SW wr)) := ⟨⟨_, hS1⟩⟩
        refine quietS (S := SW wr) (by kernel_rfl) (by kernel_rfl) (hS1) ?_
        repeat (first | go_big_quiet_skip | (go_big_quiet_want; go_big_quiet_op; first | go_big_quiet_on | go_big_quiet_call (((go_at_call 12; exact quiet_S (K0.out _ (Wd.ok _)))))))
        refine wpQuiet_nil ?_
        rintro W ⟨⟨_, hW⟩, rfl⟩
        clear f0 f1 u0 v0 u1 v1 u2 v2 u3 v3 u4 v4 u5 v5 u6 v6
        go_wp2
        go_roundw
        case rel => exact ⟨k + 1, by omega, by go_num, Lib.hid (by rw [HFT.out]; simp only [Bool.false_eq_true, if_false, List.append_nil]; exact HR.out.more hW), Below.trans hS (Below.mono hW hS.size)⟩
        case measure => simp [intOf]; omega
      | true =>
        rw [hp] at K0 HFT
        go_upto_region 5 with fail
        have hNe : Nonempty (Wd (SW wr)) := ⟨⟨_, hS1⟩⟩
        refine quietS (S := SW wr) (by kernel_rfl) (by kernel_rfl) (hS1) ?_
        repeat (first | go_big_quiet_skip | (go_big_quiet_want; go_big_quiet_op; first | go_big_quiet_on | go_big_quiet_call (((go_at_call 12; exact quiet_S (K0.out _ (Wd.ok _)))))))
        refine wpQuiet_nil ?_
        rintro W ⟨⟨_, hW⟩, rfl⟩
        clear f0 f1 u0 v0 u1 v1 u2 v2 u3 v3 u4 v4 u5 v5 u6 v6
        have HRW := Lib.hid (HR.out.more hW)
        have HLE : Hid ((List.filter (fun j => fitB l ⟨icar, inum, iday, sif, sit, idep, iarr⟩ (sA S j)) (List.take k F)).length ≤ 100000000) := Lib.hid (Nat.le_trans (List.length_filter_le _ _) (by rw [List.length_take]; omega))
        go_wp2_with (at_builtin; refine wpList_rapp rtN rfl _ _ rfl HRW.out rfl (bel_alloc _ _) _ j _ rfl (cs := #[.int .i64 (j : Int)]) rfl (heap_alloc_new _ _) HLE.out ?_; intro v8 w8 hO hC)
        go_roundw
        case rel => exact ⟨k + 1, by omega, by go_num, Lib.hid (by rw [HFT.out]; exact hO), Below.trans (Below.trans hS (Below.mono hW hS.size)) (hC.below HRW.out)⟩
        case measure => simp [intOf]; omega
    · have e : k = fn := by omega
      subst e
      have i5 : ¬ (k : Int) < (k : Int) := by omega
      go_wp2
      go_ret
      refine ⟨_, rfl, ⟨w5.heap.size, ?_⟩, by have h1 := HBX.out; exact h1.trans (Below.mono hS h1.size)⟩
      have h := HR.out
      rw [← HFE.out, List.take_length] at h
      rw [HO.out]
      exact h

end Go.Proofs.YtkcdifanhdakhaaDoor.Con
