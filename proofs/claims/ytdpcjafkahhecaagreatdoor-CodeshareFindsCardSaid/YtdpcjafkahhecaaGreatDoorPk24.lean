/- Words and walks that the laws below ask: ShrH, ShrI, ShrW, ShrX. -/
import Derived.Deep.LoopGhost
import Derived.BigQuiet
import Derived.Deep.CutRange
import Derived.Deep.CutBlock
import Derived.Test.YtdpcjafkahhecaaGreatDoorPk19
import Derived.Test.YtdpcjafkahhecaaGreatDoorPk22
import Derived.Test.YtdpcjafkahhecaaGreatDoorPk23
/- Sold of the program. -/
namespace Go.Proofs.YtdpcjafkahhecaaGreatDoor
open Go.RowKit Go.Shelf
set_option linter.unusedSimpArgs false
set_option linter.unusedVariables false

/-- the segments of the flights of a day -/
def fpart (L : List Air) (fs : List FV) (day : Int) : List Sg := fs.flatMap fun f => segsL (legF L f day)
/-- what a share sells on a day -/
def shSeg (L : List Air) (fs : List FV) (sh : List Sh) (day : Int) (x : Sh) : List Sg := if Per.hasQ (x.pf, x.pt, x.pd) day = true then (if (soldF L fs sh x.car x.num day x.f x.t).1 = 0 then [(soldF L fs sh x.car x.num day x.f x.t).2] else []) else []
def spart (L : List Air) (fs : List FV) (sh : List Sh) (day : Int) (l : List Sh) : List Sg := l.flatMap (shSeg L fs sh day)
def soldL (L : List Air) (fs : List FV) (sh : List Sh) (day : Int) : List Sg := fpart L fs day ++ spart L fs sh day sh
theorem flatMap_take {α β : Type} {l : List α} {g : α → List β} {k : Nat} {x : α} (h : l[k]? = some x) : (l.take (k + 1)).flatMap g = (l.take k).flatMap g ++ g x := by
  rw [List.take_add_one, h, List.flatMap_append]; simp
theorem flatMap_le {α β : Type} (g : α → List β) (m : Nat) : ∀ l : List α, (∀ x ∈ l, (g x).length ≤ m) → (l.flatMap g).length ≤ m * l.length
  | [], _ => by simp
  | x :: r, h => by
    have h1 := h x (List.mem_cons_self ..)
    have h2 := flatMap_le g m r (fun y hy => h y (List.mem_cons_of_mem _ hy))
    rw [List.flatMap_cons, List.length_append, List.length_cons, Nat.mul_succ]
    omega
theorem segsL_bd (l : List Air) (f : FV) (day : Int) (h : f.lg.length ≤ 100) : (segsL (legF l f day)).length ≤ 10000 := by
  have h1 : (legF l f day).length ≤ 100 := by unfold legF; split <;> simp <;> omega
  have h2 := segsI_le (legF l f day) (legF l f day).length
  have h3 : (legF l f day).length * (legF l f day).length ≤ 100 * 100 := Nat.mul_le_mul h1 h1
  unfold segsL
  omega
theorem fpart_bd {L : List Air} {fs : List FV} {day : Int} (k : Nat) (h : ∀ f ∈ fs, f.lg.length ≤ 100) (hn : fs.length ≤ 1000) : (fpart L (fs.take k) day).length ≤ 10000000 := by
  have h1 := flatMap_le (fun f => segsL (legF L f day)) 10000 (fs.take k) (fun f hf => segsL_bd L f day (h f (List.mem_of_mem_take hf)))
  have h2 : (fs.take k).length ≤ 1000 := by rw [List.length_take]; omega
  unfold fpart
  omega
theorem shSeg_bd (L : List Air) (fs : List FV) (sh : List Sh) (day : Int) (x : Sh) : (shSeg L fs sh day x).length ≤ 1 := by
  unfold shSeg
  split
  · split <;> simp
  · simp
theorem spart_bd {L : List Air} {fs : List FV} {sh : List Sh} {day : Int} {l : List Sh} (k : Nat) (hn : l.length ≤ 100000) : (spart L fs sh day (l.take k)).length ≤ 100000 := by
  have h1 := flatMap_le (shSeg L fs sh day) 1 (l.take k) (fun x _ => shSeg_bd L fs sh day x)
  have h2 : (l.take k).length ≤ 100000 := by rw [List.length_take]; omega
  unfold spart
  omega
theorem segsL_nil : segsL [] = [] := rfl
theorem legF_err {l : List Air} {f : FV} {day : Int} (h : legE f day ≠ 0) : legF l f day = [] := by
  unfold legE at h
  unfold legF
  split at h
  · exact absurd rfl h
  · rename_i hc; rw [if_neg hc]
set_option maxRecDepth 100000 in
set_option maxHeartbeats 16000000 in
theorem csold_any (p : PV) (A0 : Option Addr) (c0 : Nat) (fs : List FV) (A : Option Addr) (c : Nat) (sh : List Sh) (day : Int) (w : World) (op : fs ≠ [] → OkPl p) (ot : OkT fs) (hL : AirL w p.A p.l) (hv : TblL w (.slice A0 fs.length c0) fs) (hl : sh.length ≤ 100000) (hs : RowL 9 encSh9 w (.slice A sh.length c) sh) (h0 : -9223372036854775808 ≤ day) (h1 : day ≤ 9223372036854775807) :
    Calls Tryz.prog 18 #[encP p, .slice A0 fs.length c0, .slice A sh.length c, .int .i64 day] w fun e w' => ∃ v, e = .returned v ∧ RowL 7 encSg w' v (soldL p.l fs sh day) ∧ Below w.heap.size w w' := by
  have hbA := bel_alloc w (.cells #[.slice p.A p.l.length p.ca, .slice p.D p.ds.length p.cd] placesT)
  have e0 := (cells_new w #[.slice p.A p.l.length p.ca, .slice p.D p.ds.length p.cd] placesT 0).trans (show _ = some (Value.slice p.A p.l.length p.ca) from rfl)
  have e1 := (cells_new w #[.slice p.A p.l.length p.ca, .slice p.D p.ds.length p.cd] placesT 1).trans (show _ = some (Value.slice p.D p.ds.length p.cd) from rfl)
  obtain ⟨B, hB⟩ : ∃ B, B = w.heap.size := ⟨_, rfl⟩
  rw [← hB] at e0 e1
  obtain ⟨nf, hnf⟩ : ∃ nf, nf = fs.length := ⟨_, rfl⟩
  obtain ⟨ns, hns⟩ : ∃ ns, ns = sh.length := ⟨_, rfl⟩
  have HNF := Lib.hid hnf
  have HNS := Lib.hid hns
  have HV := Lib.hid hv
  have HL := Lib.hid hL
  have HS := Lib.hid hs
  have HA := Lib.hid hbA
  have HOT := Lib.hid ot
  have HOP := Lib.hid op
  have hnf1 := ot.len
  have HSL := Lib.hid hl
  rw [← hnf] at hnf1
  rw [← hnf, ← hns] 
  rw [← hns] at hl
  clear hv hL hs hbA ot op
  go_enter Tryz.func18, Tryz.ntmps18
  go_upto_region 2 with fail
  rw [← hB]
  generalize w.alloc (.cells #[.slice p.A p.l.length p.ca, .slice p.D p.ds.length p.cd] placesT) = w5 at *
  clear hB hnf hns
  have E0 := Lib.hid (fun W (h : SW w5 W) => bel_get e0 _ h)
  have E1 := Lib.hid (fun W (h : SW w5 W) => bel_get e1 _ h)
  clear e0 e1
  have HT : Hid (∀ W, SW w5 W → SW w W) := Lib.hid (fun W h => Below.trans HA.out (Below.mono h HA.out.size))
  have KS : Hid (∀ f ∈ fs, ∀ W, SW w5 W → Calls Tryz.prog 49 #[encP p, .agg #[.string f.car, .int .i64 f.num, .int .i64 f.pf, .int .i64 f.pt, .int .i64 f.pd, .slice f.A f.lg.length f.c], .int .i64 day] W fun e w' => ∃ v, e = .returned (.tuple #[v, .int .i64 (legE f day)]) ∧ RowL 7 encSg w' v (segsL (legF p.l f day)) ∧ Below W.heap.size W w') := Lib.hid (fun f hf W h => by
    have hpl := HOP.out (by intro e; rw [e] at hf; cases hf)
    exact (segs_any p f day W hpl.la (HL.out.more (HT.out W h)) hpl.sh hpl.oz ((HV.out.legs f hf).more (HT.out W h)) (HOT.out.lg f hf) (HOT.out.hm f hf) h0 h1).mono (by rintro e w' ⟨v, rfl, hO, hb⟩; exact ⟨v, rfl, hO.rowL rtG.len, hb⟩))
  have KH : Hid (∀ (a b c : Int) W, Calls Tryz.prog 50 #[.agg #[.int .i64 a, .int .i64 b, .int .i64 c], .int .i64 day] W fun e w' => e = .returned (.bool (Per.hasQ (a, b, c) day)) ∧ Below W.heap.size W w') := Lib.hid (fun a b c W => Per.has_any a b c day W h0 h1)
  have KF : Hid (∀ (x : Sh) W, SW w5 W → Calls Tryz.prog 13 #[encP p, .slice A0 nf c0, .slice A ns c, .string x.car, .int .i64 x.num, .int .i64 day, .string x.f, .string x.t] W fun e w' => e = .returned (.tuple #[encS7 (soldF p.l fs sh x.car x.num day x.f x.t).2, .int .i64 (soldF p.l fs sh x.car x.num day x.f x.t).1]) ∧ Below W.heap.size W w') := Lib.hid (fun x W h => by
    have k := cfind_any p (.slice A0 nf c0) fs A c sh x.car x.num day x.f x.t W HOP.out HOT.out (HL.out.more (HT.out W h)) (by rw [HNF.out]; exact HV.out.more (HT.out W h)) HSL.out (HS.out.more (HT.out W h)) h0 h1
    rw [← HNS.out] at k
    exact k)
  have HI : Hid (ROwn segT 7 encSg w5.heap.size w5 (.slice none 0 0) (fpart p.l (fs.take 0) day) ∧ SW w5 w5) := Lib.hid ⟨ROwn.nil (Nat.le_refl _), Below.refl _ _⟩
  go_wp2
  go_loopg [9, 20] nf (fun kx v9 vi wr => ∃ (v : Value) (k : Nat), v = v9 ∧ vi = .int .i64 k ∧ k + kx = nf ∧ Hid (ROwn segT 7 encSg w5.heap.size wr v (fpart p.l (fs.take k) day) ∧ SW w5 wr))
  case atStart => exact ⟨_, 0, rfl, rfl, by omega, HI⟩
  case round =>
    obtain ⟨v, k, rfl, rfl, hkx, HH⟩ := hrel
    clear HI
    have HKX := Lib.hid hkx
    by_cases hlt : k < nf
    rotate_left
    · have i1 : ¬ (k : Int) < (nf : Int) := by omega
      have HI2 : Hid (ROwn segT 7 encSg w5.heap.size wr v (fpart p.l fs day ++ spart p.l fs sh day (sh.take 0)) ∧ SW w5 wr) := Lib.hid (by
        have h := HH.out
        rw [List.take_of_length_le (by have := HNF.out; omega)] at h
        refine ⟨?_, h.2⟩
        show ROwn segT 7 encSg w5.heap.size wr v (fpart p.l fs day ++ [])
        rw [List.append_nil]
        exact h.1)
      clear HH KS hlt hkx HKX
      go_wp2
      go_loopg [9, 39] ns (fun kx v9 vi wr => ∃ (v : Value) (k : Nat), v = v9 ∧ vi = .int .i64 k ∧ k + kx = ns ∧ Hid (ROwn segT 7 encSg w5.heap.size wr v (fpart p.l fs day ++ spart p.l fs sh day (sh.take k)) ∧ SW w5 wr))
      case atStart => exact ⟨_, 0, rfl, rfl, by omega, HI2⟩
      case round =>
        obtain ⟨v, k, rfl, rfl, hkx, HH⟩ := hrel
        clear HI2
        have HKX := Lib.hid hkx
        by_cases hlt : k < ns
        rotate_left
        · have i1 : ¬ (k : Int) < (ns : Int) := by omega
          have HR : Hid (RowL 7 encSg wr v (soldL p.l fs sh day) ∧ Below w.heap.size w wr) := Lib.hid (by
            have h := HH.out.1.rowL rtG.len
            rw [List.take_of_length_le (by have := HNS.out; omega)] at h
            exact ⟨h, HT.out _ HH.out.2⟩)
          go_wp2
          go_ret
          exact ⟨_, rfl, HR.out⟩
        have i1 : (k : Int) < (ns : Int) := by omega
        obtain ⟨x, hx⟩ : ∃ x, sh[k]? = some x := ⟨_, List.getElem?_eq_getElem (by have := HNS.out; omega)⟩
        obtain ⟨bb, o, e1, hgl, hc⟩ := RowL.at9 (HS.out.more (HT.out _ HH.out.2)) hx
        subst e1
        have HTK := Lib.hid (flatMap_take (g := shSeg p.l fs sh day) hx)
        have HNX : Hid (k + 1 + (ns - (k + 1)) = ns) := Lib.hid (by omega)
        have HLm : Hid ((fpart p.l fs day ++ spart p.l fs sh day (sh.take k)).length ≤ 100000000) := Lib.hid (by
          have h1 := fpart_bd (L := p.l) (day := day) fs.length HOT.out.lg HOT.out.len
          rw [List.take_length] at h1
          have h2 := spart_bd (L := p.l) (fs := fs) (sh := sh) (day := day) k HSL.out
          rw [List.length_append]; omega)
        have z0 := hc 0 _ rfl
        have z1 := hc 1 _ rfl
        have z2 := hc 2 _ rfl
        have z3 := hc 3 _ rfl
        have z4 := hc 4 _ rfl
        have z5 := hc 5 _ rfl
        have z6 := hc 6 _ rfl
        have z7 := hc 7 _ rfl
        have z8 := hc 8 _ rfl
        rw [Nat.add_zero] at z0
        clear hc hgl hx hkx
        go_upto_region 12 with fail
        have hbx := bel_alloc wr (.cells #[.string x.car, .int .i64 x.num, .int .i64 x.pf, .int .i64 x.pt, .int .i64 x.pd, .string x.op, .int .i64 x.am, .string x.f, .string x.t] shT)
        have hO := HH.out.1.more hbx
        have hS : SW w5 (wr.alloc (.cells #[.string x.car, .int .i64 x.num, .int .i64 x.pf, .int .i64 x.pt, .int .i64 x.pd, .string x.op, .int .i64 x.am, .string x.f, .string x.t] shT)) := Below.trans HH.out.2 (Below.mono hbx HH.out.2.size)
        have y0 := (cells_new wr #[.string x.car, .int .i64 x.num, .int .i64 x.pf, .int .i64 x.pt, .int .i64 x.pd, .string x.op, .int .i64 x.am, .string x.f, .string x.t] shT 0).trans (show _ = some (Value.string x.car) from rfl)
        have y1 := (cells_new wr #[.string x.car, .int .i64 x.num, .int .i64 x.pf, .int .i64 x.pt, .int .i64 x.pd, .string x.op, .int .i64 x.am, .string x.f, .string x.t] shT 1).trans (show _ = some (Value.int .i64 x.num) from rfl)
        have y2 := (cells_new wr #[.string x.car, .int .i64 x.num, .int .i64 x.pf, .int .i64 x.pt, .int .i64 x.pd, .string x.op, .int .i64 x.am, .string x.f, .string x.t] shT 2).trans (show _ = some (Value.int .i64 x.pf) from rfl)
        have y3 := (cells_new wr #[.string x.car, .int .i64 x.num, .int .i64 x.pf, .int .i64 x.pt, .int .i64 x.pd, .string x.op, .int .i64 x.am, .string x.f, .string x.t] shT 3).trans (show _ = some (Value.int .i64 x.pt) from rfl)
        have y4 := (cells_new wr #[.string x.car, .int .i64 x.num, .int .i64 x.pf, .int .i64 x.pt, .int .i64 x.pd, .string x.op, .int .i64 x.am, .string x.f, .string x.t] shT 4).trans (show _ = some (Value.int .i64 x.pd) from rfl)
        have y7 := (cells_new wr #[.string x.car, .int .i64 x.num, .int .i64 x.pf, .int .i64 x.pt, .int .i64 x.pd, .string x.op, .int .i64 x.am, .string x.f, .string x.t] shT 7).trans (show _ = some (Value.string x.f) from rfl)
        have y8 := (cells_new wr #[.string x.car, .int .i64 x.num, .int .i64 x.pf, .int .i64 x.pt, .int .i64 x.pd, .string x.op, .int .i64 x.am, .string x.f, .string x.t] shT 8).trans (show _ = some (Value.string x.t) from rfl)
        generalize hBX : wr.heap.size = BX at *
        generalize hw6 : wr.alloc (.cells #[.string x.car, .int .i64 x.num, .int .i64 x.pf, .int .i64 x.pt, .int .i64 x.pd, .string x.op, .int .i64 x.am, .string x.f, .string x.t] shT) = w6 at *
        clear z0 z1 z2 z3 z4 z5 z6 z7 z8 hbx hBX hw6
        have KHx := Lib.hid (KH.out x.pf x.pt x.pd)
        have KFx := Lib.hid (KF.out x)
        have HSG : Hid (shSeg p.l fs sh day x = if Per.hasQ (x.pf, x.pt, x.pd) day = true then (if (soldF p.l fs sh x.car x.num day x.f x.t).1 = 0 then [(soldF p.l fs sh x.car x.num day x.f x.t).2] else []) else []) := Lib.hid rfl
        cases hq : Per.hasQ (x.pf, x.pt, x.pd) day with
        | false =>
          rw [hq] at KHx HSG
          rw [if_neg (by simp)] at HSG
          go_wp2_with (go_at_call 50; refine (KHx.out _).mono ?_; rintro e w7 ⟨rfl, hb7⟩)
          have HY : Hid (ROwn segT 7 encSg w5.heap.size w7 v (fpart p.l fs day ++ spart p.l fs sh day (sh.take (k + 1))) ∧ SW w5 w7) := Lib.hid (by
            refine ⟨?_, Below.trans hS (Below.mono hb7 hS.size)⟩
            unfold spart
            rw [HTK.out, HSG.out, List.append_nil]
            exact hO.more hb7)
          clear y0 y1 y2 y3 y4 y7 y8 hO hS hb7 HH
          go_roundg (ns - (k + 1))
          case measure => have := HKX.out; omega
          case rel => exact ⟨_, k + 1, rfl, by go_num, HNX.out, HY⟩
        | true =>
          rw [hq] at KHx HSG
          rw [if_pos rfl] at HSG
          obtain ⟨er, her⟩ : ∃ er, er = (soldF p.l fs sh x.car x.num day x.f x.t).1 := ⟨_, rfl⟩
          obtain ⟨q, hqq⟩ : ∃ q, q = (soldF p.l fs sh x.car x.num day x.f x.t).2 := ⟨_, rfl⟩
          rw [← her, ← hqq] at KFx HSG
          clear her hqq hq
          go_upto_region 13 with (go_at_call 50; refine (KHx.out _).mono ?_; rintro e w7 ⟨rfl, hb7⟩)
          have hO7 := hO.more hb7
          have hS7 : SW w5 w7 := Below.trans hS (Below.mono hb7 hS.size)
          have y0 := bel_cell hb7 y0
          have y1 := bel_cell hb7 y1
          have y7 := bel_cell hb7 y7
          have y8 := bel_cell hb7 y8
          have e0 := E0.out _ hS7
          have e1 := E1.out _ hS7
          clear y2 y3 y4 hO hS hb7 HH
          go_upto_region 14 with (go_at_call 13; refine (KFx.out _ hS7).mono ?_; rintro e w8 ⟨rfl, hb8⟩)
          have hbq := bel_alloc w8 (.cells #[.string q.car, .int .i64 q.num, .int .i64 q.day, .string q.f, .string q.t, .int .i64 q.dep, .int .i64 q.arr] segT)
          have hO9 := (hO7.more hb8).more hbq
          have hS9 : SW w5 (w8.alloc (.cells #[.string q.car, .int .i64 q.num, .int .i64 q.day, .string q.f, .string q.t, .int .i64 q.dep, .int .i64 q.arr] segT)) := Below.trans hS7 (Below.mono (Below.trans hb8 (Below.mono hbq hb8.size)) hS7.size)
          have s0 := (cells_new w8 #[.string q.car, .int .i64 q.num, .int .i64 q.day, .string q.f, .string q.t, .int .i64 q.dep, .int .i64 q.arr] segT 0).trans (show _ = some (Value.string q.car) from rfl)
          have s1 := (cells_new w8 #[.string q.car, .int .i64 q.num, .int .i64 q.day, .string q.f, .string q.t, .int .i64 q.dep, .int .i64 q.arr] segT 1).trans (show _ = some (Value.int .i64 q.num) from rfl)
          have s2 := (cells_new w8 #[.string q.car, .int .i64 q.num, .int .i64 q.day, .string q.f, .string q.t, .int .i64 q.dep, .int .i64 q.arr] segT 2).trans (show _ = some (Value.int .i64 q.day) from rfl)
          have s3 := (cells_new w8 #[.string q.car, .int .i64 q.num, .int .i64 q.day, .string q.f, .string q.t, .int .i64 q.dep, .int .i64 q.arr] segT 3).trans (show _ = some (Value.string q.f) from rfl)
          have s4 := (cells_new w8 #[.string q.car, .int .i64 q.num, .int .i64 q.day, .string q.f, .string q.t, .int .i64 q.dep, .int .i64 q.arr] segT 4).trans (show _ = some (Value.string q.t) from rfl)
          have s5 := (cells_new w8 #[.string q.car, .int .i64 q.num, .int .i64 q.day, .string q.f, .string q.t, .int .i64 q.dep, .int .i64 q.arr] segT 5).trans (show _ = some (Value.int .i64 q.dep) from rfl)
          have s6 := (cells_new w8 #[.string q.car, .int .i64 q.num, .int .i64 q.day, .string q.f, .string q.t, .int .i64 q.dep, .int .i64 q.arr] segT 6).trans (show _ = some (Value.int .i64 q.arr) from rfl)
          generalize hBQ : w8.heap.size = BQ at *
          generalize hw9 : w8.alloc (.cells #[.string q.car, .int .i64 q.num, .int .i64 q.day, .string q.f, .string q.t, .int .i64 q.dep, .int .i64 q.arr] segT) = w9 at *
          clear y0 y1 y7 y8 e0 e1 hO7 hb8 hS7 hbq hBQ hw9
          by_cases hz : er = 0
          · have HG : Hid (spart p.l fs sh day (sh.take (k + 1)) = spart p.l fs sh day (sh.take k) ++ [q]) := Lib.hid (by
              unfold spart
              rw [HTK.out, HSG.out, if_pos hz])
            subst hz
            go_wp2_with (at_builtin; refine wpList_rapp rtG rfl _ _ rfl hO9 rfl (bel_alloc _ _) _ q _ rfl (cs := #[.string q.car, .int .i64 q.num, .int .i64 q.day, .string q.f, .string q.t, .int .i64 q.dep, .int .i64 q.arr]) rfl (heap_alloc_new _ _) HLm.out ?_; intro v1 w1 hO1 hC1)
            have HY : Hid (ROwn segT 7 encSg w5.heap.size w1 v1 (fpart p.l fs day ++ spart p.l fs sh day (sh.take (k + 1))) ∧ SW w5 w1) := Lib.hid (by
              rw [HG.out, ← List.append_assoc]
              exact ⟨hO1, Below.trans hS9 (hC1.below (B := w5.heap.size) hO9)⟩)
            clear s0 s1 s2 s3 s4 s5 s6 hO9 hS9 hO1 hC1
            go_roundg (ns - (k + 1))
            case measure => have := HKX.out; omega
            case rel => exact ⟨_, k + 1, rfl, by go_num, HNX.out, HY⟩
          · have HY : Hid (ROwn segT 7 encSg w5.heap.size w9 v (fpart p.l fs day ++ spart p.l fs sh day (sh.take (k + 1))) ∧ SW w5 w9) := Lib.hid (by
              refine ⟨?_, hS9⟩
              unfold spart
              rw [HTK.out, HSG.out, if_neg hz, List.append_nil]
              exact hO9)
            have g1 : (er == 0) = false := by simpa using hz
            clear s0 s1 s2 s3 s4 s5 s6 hO9 hS9 HSG KFx
            go_wp2
            clear g1 hz
            go_roundg (ns - (k + 1))
            case measure => have := HKX.out; omega
            case rel => exact ⟨_, k + 1, rfl, by go_num, HNX.out, HY⟩
    have i1 : (k : Int) < (nf : Int) := by omega
    obtain ⟨f, hf⟩ : ∃ f, fs[k]? = some f := ⟨_, List.getElem?_eq_getElem (by have := HNF.out; omega)⟩
    obtain ⟨bb, o, e1, hgl, hc⟩ := RowL.at6 (HV.out.row.more (HT.out _ HH.out.2)) hf
    subst e1
    have HTK := Lib.hid (flatMap_take (g := fun f => segsL (legF p.l f day)) hf)
    have HNX : Hid (k + 1 + (nf - (k + 1)) = nf) := Lib.hid (by omega)
    have KSf := Lib.hid (KS.out f (List.mem_of_getElem? hf))
    have HLm : Hid ((fpart p.l (fs.take k) day).length + (segsL (legF p.l f day)).length ≤ 100000000) := Lib.hid (by
      have h1 := fpart_bd (L := p.l) (day := day) k HOT.out.lg HOT.out.len
      have h2 := segsL_bd p.l f day (HOT.out.lg f (List.mem_of_getElem? hf))
      omega)
    have HLE : Hid (legE f day ≠ 0 → legF p.l f day = []) := Lib.hid (fun h => legF_err h)
    have z0 := hc 0 _ rfl
    have z1 := hc 1 _ rfl
    have z2 := hc 2 _ rfl
    have z3 := hc 3 _ rfl
    have z4 := hc 4 _ rfl
    have z5 := hc 5 _ rfl
    rw [Nat.add_zero] at z0
    clear hc hgl hf hkx
    go_upto_region 5 with fail
    have hbx := bel_alloc wr (.cells #[.string f.car, .int .i64 f.num, .int .i64 f.pf, .int .i64 f.pt, .int .i64 f.pd, .slice f.A f.lg.length f.c] fliT)
    have hO := HH.out.1.more hbx
    have hS : SW w5 (wr.alloc (.cells #[.string f.car, .int .i64 f.num, .int .i64 f.pf, .int .i64 f.pt, .int .i64 f.pd, .slice f.A f.lg.length f.c] fliT)) := Below.trans HH.out.2 (Below.mono hbx HH.out.2.size)
    have y0 := (cells_new wr #[.string f.car, .int .i64 f.num, .int .i64 f.pf, .int .i64 f.pt, .int .i64 f.pd, .slice f.A f.lg.length f.c] fliT 0).trans (show _ = some (Value.string f.car) from rfl)
    have y1 := (cells_new wr #[.string f.car, .int .i64 f.num, .int .i64 f.pf, .int .i64 f.pt, .int .i64 f.pd, .slice f.A f.lg.length f.c] fliT 1).trans (show _ = some (Value.int .i64 f.num) from rfl)
    have y2 := (cells_new wr #[.string f.car, .int .i64 f.num, .int .i64 f.pf, .int .i64 f.pt, .int .i64 f.pd, .slice f.A f.lg.length f.c] fliT 2).trans (show _ = some (Value.int .i64 f.pf) from rfl)
    have y3 := (cells_new wr #[.string f.car, .int .i64 f.num, .int .i64 f.pf, .int .i64 f.pt, .int .i64 f.pd, .slice f.A f.lg.length f.c] fliT 3).trans (show _ = some (Value.int .i64 f.pt) from rfl)
    have y4 := (cells_new wr #[.string f.car, .int .i64 f.num, .int .i64 f.pf, .int .i64 f.pt, .int .i64 f.pd, .slice f.A f.lg.length f.c] fliT 4).trans (show _ = some (Value.int .i64 f.pd) from rfl)
    have y5 := (cells_new wr #[.string f.car, .int .i64 f.num, .int .i64 f.pf, .int .i64 f.pt, .int .i64 f.pd, .slice f.A f.lg.length f.c] fliT 5).trans (show _ = some (Value.slice f.A f.lg.length f.c) from rfl)
    generalize hBX : wr.heap.size = BX at *
    generalize hw6 : wr.alloc (.cells #[.string f.car, .int .i64 f.num, .int .i64 f.pf, .int .i64 f.pt, .int .i64 f.pd, .slice f.A f.lg.length f.c] fliT) = w6 at *
    clear z0 z1 z2 z3 z4 z5 hbx hBX hw6
    have e0 := E0.out _ hS
    have e1 := E1.out _ hS
    go_upto_region 6 with (go_at_call 49; refine (KSf.out _ hS).mono ?_; rintro e w7 ⟨vs, rfl, hR7, hb7⟩)
    have hO7 := hO.more hb7
    have hS7 : SW w5 w7 := Below.trans hS (Below.mono hb7 hS.size)
    clear y0 y1 y2 y3 y4 y5 e0 e1 hO hS hb7 HH KSf
    by_cases hz : legE f day = 0
    · have g1 : (legE f day == 0) = true := by simpa using hz
      go_wp2_with (at_builtin; refine wpList_rappl rtG rfl _ _ rfl hO7 rfl (segsL (legF p.l f day)) _ rfl hR7 HLm.out ?_; intro v1 w1 hO1 hC1)
      have HY : Hid (ROwn segT 7 encSg w5.heap.size w1 v1 (fpart p.l (fs.take (k + 1)) day) ∧ SW w5 w1) := Lib.hid (by
        unfold fpart
        rw [HTK.out]
        exact ⟨hO1, Below.trans hS7 (hC1.below (B := w5.heap.size) hO7)⟩)
      clear hO7 hS7 hO1 hC1 hR7 g1 hz
      go_roundg (nf - (k + 1))
      case measure => have := HKX.out; omega
      case rel => exact ⟨_, k + 1, rfl, by go_num, HNX.out, HY⟩
    · have g1 : (legE f day == 0) = false := by simpa using hz
      have HY : Hid (ROwn segT 7 encSg w5.heap.size w7 v (fpart p.l (fs.take (k + 1)) day) ∧ SW w5 w7) := Lib.hid (by
        refine ⟨?_, hS7⟩
        unfold fpart
        rw [HTK.out, HLE.out hz, segsL_nil, List.append_nil]
        exact hO7)
      clear hO7 hS7 hR7
      go_wp2
      clear g1 hz
      go_roundg (nf - (k + 1))
      case measure => have := HKX.out; omega
      case rel => exact ⟨_, k + 1, rfl, by go_num, HNX.out, HY⟩
end Go.Proofs.YtdpcjafkahhecaaGreatDoor

/- Sold of the reference. -/
namespace Go.Proofs.YtdpcjafkahhecaaGreatDoor
open Go.RowKit Go.Shelf
set_option linter.unusedSimpArgs false
set_option linter.unusedVariables false

set_option maxRecDepth 100000 in
set_option maxHeartbeats 16000000 in
theorem rcsold_any (p : PV) (A0 : Option Addr) (c0 : Nat) (fs : List FV) (A : Option Addr) (c : Nat) (sh : List Sh) (day : Int) (w : World) (op : fs ≠ [] → OkPl p) (ot : OkT fs) (hL : AirL w p.A p.l) (hv : TblL w (.slice A0 fs.length c0) fs) (hl : sh.length ≤ 100000) (hs : RowL 9 encSh9 w (.slice A sh.length c) sh) (h0 : -9223372036854775808 ≤ day) (h1 : day ≤ 9223372036854775807) :
    Calls Tryz.prog 19 #[encP p, .slice A0 fs.length c0, .slice A sh.length c, .int .i64 day] w fun e w' => ∃ v, e = .returned v ∧ RowL 7 encSg w' v (soldL p.l fs sh day) ∧ Below w.heap.size w w' := by
  have hbA := bel_alloc w (.cells #[.slice p.A p.l.length p.ca, .slice p.D p.ds.length p.cd] placesT)
  have e0 := (cells_new w #[.slice p.A p.l.length p.ca, .slice p.D p.ds.length p.cd] placesT 0).trans (show _ = some (Value.slice p.A p.l.length p.ca) from rfl)
  have e1 := (cells_new w #[.slice p.A p.l.length p.ca, .slice p.D p.ds.length p.cd] placesT 1).trans (show _ = some (Value.slice p.D p.ds.length p.cd) from rfl)
  obtain ⟨B, hB⟩ : ∃ B, B = w.heap.size := ⟨_, rfl⟩
  rw [← hB] at e0 e1
  obtain ⟨nf, hnf⟩ : ∃ nf, nf = fs.length := ⟨_, rfl⟩
  obtain ⟨ns, hns⟩ : ∃ ns, ns = sh.length := ⟨_, rfl⟩
  have HNF := Lib.hid hnf
  have HNS := Lib.hid hns
  have HV := Lib.hid hv
  have HL := Lib.hid hL
  have HS := Lib.hid hs
  have HA := Lib.hid hbA
  have HOT := Lib.hid ot
  have HOP := Lib.hid op
  have hnf1 := ot.len
  have HSL := Lib.hid hl
  rw [← hnf] at hnf1
  rw [← hnf, ← hns] 
  rw [← hns] at hl
  clear hv hL hs hbA ot op
  go_enter Tryz.func19, Tryz.ntmps19
  go_upto_region 2 with fail
  rw [← hB]
  generalize w.alloc (.cells #[.slice p.A p.l.length p.ca, .slice p.D p.ds.length p.cd] placesT) = w5 at *
  clear hB hnf hns
  have E0 := Lib.hid (fun W (h : SW w5 W) => bel_get e0 _ h)
  have E1 := Lib.hid (fun W (h : SW w5 W) => bel_get e1 _ h)
  clear e0 e1
  have HT : Hid (∀ W, SW w5 W → SW w W) := Lib.hid (fun W h => Below.trans HA.out (Below.mono h HA.out.size))
  have KS : Hid (∀ f ∈ fs, ∀ W, SW w5 W → Calls Tryz.prog 48 #[encP p, .agg #[.string f.car, .int .i64 f.num, .int .i64 f.pf, .int .i64 f.pt, .int .i64 f.pd, .slice f.A f.lg.length f.c], .int .i64 day] W fun e w' => ∃ v, e = .returned (.tuple #[v, .int .i64 (legE f day)]) ∧ RowL 7 encSg w' v (segsL (legF p.l f day)) ∧ Below W.heap.size W w') := Lib.hid (fun f hf W h => by
    have hpl := HOP.out (by intro e; rw [e] at hf; cases hf)
    exact (rsegs_any p f day W hpl.la (HL.out.more (HT.out W h)) hpl.oz ((HV.out.legs f hf).more (HT.out W h)) (HOT.out.lg f hf) (HOT.out.hm f hf) h0 h1).mono (by rintro e w' ⟨v, rfl, hO, hb⟩; exact ⟨v, rfl, hO.rowL rtG.len, hb⟩))
  have KH : Hid (∀ (a b c : Int) W, Calls Tryz.prog 51 #[.agg #[.int .i64 a, .int .i64 b, .int .i64 c], .int .i64 day] W fun e w' => e = .returned (.bool (Per.hasQ (a, b, c) day)) ∧ Below W.heap.size W w') := Lib.hid (fun a b c W => Per.rhas_any a b c day W h0 h1)
  have KF : Hid (∀ (x : Sh) W, SW w5 W → Calls Tryz.prog 14 #[encP p, .slice A0 nf c0, .slice A ns c, .string x.car, .int .i64 x.num, .int .i64 day, .string x.f, .string x.t] W fun e w' => e = .returned (.tuple #[encS7 (soldF p.l fs sh x.car x.num day x.f x.t).2, .int .i64 (soldF p.l fs sh x.car x.num day x.f x.t).1]) ∧ Below W.heap.size W w') := Lib.hid (fun x W h => by
    have k := rcfind_any p (.slice A0 nf c0) fs A c sh x.car x.num day x.f x.t W HOP.out HOT.out (HL.out.more (HT.out W h)) (by rw [HNF.out]; exact HV.out.more (HT.out W h)) HSL.out (HS.out.more (HT.out W h)) h0 h1
    rw [← HNS.out] at k
    exact k)
  have HI : Hid (ROwn segT 7 encSg w5.heap.size w5 (.slice none 0 0) (fpart p.l (fs.take 0) day) ∧ SW w5 w5) := Lib.hid ⟨ROwn.nil (Nat.le_refl _), Below.refl _ _⟩
  go_wp2
  go_loopg [9, 10] nf (fun kx v9 vi wr => ∃ (v : Value) (k : Nat), v = v9 ∧ vi = .int .i64 k ∧ k + kx = nf ∧ Hid (ROwn segT 7 encSg w5.heap.size wr v (fpart p.l (fs.take k) day) ∧ SW w5 wr))
  case atStart => exact ⟨_, 0, rfl, rfl, by omega, HI⟩
  case round =>
    obtain ⟨v, k, rfl, rfl, hkx, HH⟩ := hrel
    clear HI
    have HKX := Lib.hid hkx
    by_cases hlt : k < nf
    rotate_left
    · have i1 : ¬ (k : Int) < (nf : Int) := by omega
      have HI2 : Hid (ROwn segT 7 encSg w5.heap.size wr v (fpart p.l fs day ++ spart p.l fs sh day (sh.take 0)) ∧ SW w5 wr) := Lib.hid (by
        have h := HH.out
        rw [List.take_of_length_le (by have := HNF.out; omega)] at h
        refine ⟨?_, h.2⟩
        show ROwn segT 7 encSg w5.heap.size wr v (fpart p.l fs day ++ [])
        rw [List.append_nil]
        exact h.1)
      clear HH KS hlt hkx HKX
      go_wp2
      go_loopg [9, 13] ns (fun kx v9 vi wr => ∃ (v : Value) (k : Nat), v = v9 ∧ vi = .int .i64 k ∧ k + kx = ns ∧ Hid (ROwn segT 7 encSg w5.heap.size wr v (fpart p.l fs day ++ spart p.l fs sh day (sh.take k)) ∧ SW w5 wr))
      case atStart => exact ⟨_, 0, rfl, rfl, by omega, HI2⟩
      case round =>
        obtain ⟨v, k, rfl, rfl, hkx, HH⟩ := hrel
        clear HI2
        have HKX := Lib.hid hkx
        by_cases hlt : k < ns
        rotate_left
        · have i1 : ¬ (k : Int) < (ns : Int) := by omega
          have HR : Hid (RowL 7 encSg wr v (soldL p.l fs sh day) ∧ Below w.heap.size w wr) := Lib.hid (by
            have h := HH.out.1.rowL rtG.len
            rw [List.take_of_length_le (by have := HNS.out; omega)] at h
            exact ⟨h, HT.out _ HH.out.2⟩)
          go_wp2
          go_ret
          exact ⟨_, rfl, HR.out⟩
        have i1 : (k : Int) < (ns : Int) := by omega
        obtain ⟨x, hx⟩ : ∃ x, sh[k]? = some x := ⟨_, List.getElem?_eq_getElem (by have := HNS.out; omega)⟩
        obtain ⟨bb, o, e1, hgl, hc⟩ := RowL.at9 (HS.out.more (HT.out _ HH.out.2)) hx
        subst e1
        have HTK := Lib.hid (flatMap_take (g := shSeg p.l fs sh day) hx)
        have HNX : Hid (k + 1 + (ns - (k + 1)) = ns) := Lib.hid (by omega)
        have HLm : Hid ((fpart p.l fs day ++ spart p.l fs sh day (sh.take k)).length ≤ 100000000) := Lib.hid (by
          have h1 := fpart_bd (L := p.l) (day := day) fs.length HOT.out.lg HOT.out.len
          rw [List.take_length] at h1
          have h2 := spart_bd (L := p.l) (fs := fs) (sh := sh) (day := day) k HSL.out
          rw [List.length_append]; omega)
        have z0 := hc 0 _ rfl
        have z1 := hc 1 _ rfl
        have z2 := hc 2 _ rfl
        have z3 := hc 3 _ rfl
        have z4 := hc 4 _ rfl
        have z5 := hc 5 _ rfl
        have z6 := hc 6 _ rfl
        have z7 := hc 7 _ rfl
        have z8 := hc 8 _ rfl
        rw [Nat.add_zero] at z0
        clear hc hgl hx hkx
        go_upto_region 12 with fail
        have hbx := bel_alloc wr (.cells #[.string x.car, .int .i64 x.num, .int .i64 x.pf, .int .i64 x.pt, .int .i64 x.pd, .string x.op, .int .i64 x.am, .string x.f, .string x.t] shT)
        have hO := HH.out.1.more hbx
        have hS : SW w5 (wr.alloc (.cells #[.string x.car, .int .i64 x.num, .int .i64 x.pf, .int .i64 x.pt, .int .i64 x.pd, .string x.op, .int .i64 x.am, .string x.f, .string x.t] shT)) := Below.trans HH.out.2 (Below.mono hbx HH.out.2.size)
        have y0 := (cells_new wr #[.string x.car, .int .i64 x.num, .int .i64 x.pf, .int .i64 x.pt, .int .i64 x.pd, .string x.op, .int .i64 x.am, .string x.f, .string x.t] shT 0).trans (show _ = some (Value.string x.car) from rfl)
        have y1 := (cells_new wr #[.string x.car, .int .i64 x.num, .int .i64 x.pf, .int .i64 x.pt, .int .i64 x.pd, .string x.op, .int .i64 x.am, .string x.f, .string x.t] shT 1).trans (show _ = some (Value.int .i64 x.num) from rfl)
        have y2 := (cells_new wr #[.string x.car, .int .i64 x.num, .int .i64 x.pf, .int .i64 x.pt, .int .i64 x.pd, .string x.op, .int .i64 x.am, .string x.f, .string x.t] shT 2).trans (show _ = some (Value.int .i64 x.pf) from rfl)
        have y3 := (cells_new wr #[.string x.car, .int .i64 x.num, .int .i64 x.pf, .int .i64 x.pt, .int .i64 x.pd, .string x.op, .int .i64 x.am, .string x.f, .string x.t] shT 3).trans (show _ = some (Value.int .i64 x.pt) from rfl)
        have y4 := (cells_new wr #[.string x.car, .int .i64 x.num, .int .i64 x.pf, .int .i64 x.pt, .int .i64 x.pd, .string x.op, .int .i64 x.am, .string x.f, .string x.t] shT 4).trans (show _ = some (Value.int .i64 x.pd) from rfl)
        have y7 := (cells_new wr #[.string x.car, .int .i64 x.num, .int .i64 x.pf, .int .i64 x.pt, .int .i64 x.pd, .string x.op, .int .i64 x.am, .string x.f, .string x.t] shT 7).trans (show _ = some (Value.string x.f) from rfl)
        have y8 := (cells_new wr #[.string x.car, .int .i64 x.num, .int .i64 x.pf, .int .i64 x.pt, .int .i64 x.pd, .string x.op, .int .i64 x.am, .string x.f, .string x.t] shT 8).trans (show _ = some (Value.string x.t) from rfl)
        generalize hBX : wr.heap.size = BX at *
        generalize hw6 : wr.alloc (.cells #[.string x.car, .int .i64 x.num, .int .i64 x.pf, .int .i64 x.pt, .int .i64 x.pd, .string x.op, .int .i64 x.am, .string x.f, .string x.t] shT) = w6 at *
        clear z0 z1 z2 z3 z4 z5 z6 z7 z8 hbx hBX hw6
        have KHx := Lib.hid (KH.out x.pf x.pt x.pd)
        have KFx := Lib.hid (KF.out x)
        have HSG : Hid (shSeg p.l fs sh day x = if Per.hasQ (x.pf, x.pt, x.pd) day = true then (if (soldF p.l fs sh x.car x.num day x.f x.t).1 = 0 then [(soldF p.l fs sh x.car x.num day x.f x.t).2] else []) else []) := Lib.hid rfl
        cases hq : Per.hasQ (x.pf, x.pt, x.pd) day with
        | false =>
          rw [hq] at KHx HSG
          rw [if_neg (by simp)] at HSG
          go_wp2_with (go_at_call 51; refine (KHx.out _).mono ?_; rintro e w7 ⟨rfl, hb7⟩)
          have HY : Hid (ROwn segT 7 encSg w5.heap.size w7 v (fpart p.l fs day ++ spart p.l fs sh day (sh.take (k + 1))) ∧ SW w5 w7) := Lib.hid (by
            refine ⟨?_, Below.trans hS (Below.mono hb7 hS.size)⟩
            unfold spart
            rw [HTK.out, HSG.out, List.append_nil]
            exact hO.more hb7)
          clear y0 y1 y2 y3 y4 y7 y8 hO hS hb7 HH
          go_roundg (ns - (k + 1))
          case measure => have := HKX.out; omega
          case rel => exact ⟨_, k + 1, rfl, by go_num, HNX.out, HY⟩
        | true =>
          rw [hq] at KHx HSG
          rw [if_pos rfl] at HSG
          obtain ⟨er, her⟩ : ∃ er, er = (soldF p.l fs sh x.car x.num day x.f x.t).1 := ⟨_, rfl⟩
          obtain ⟨q, hqq⟩ : ∃ q, q = (soldF p.l fs sh x.car x.num day x.f x.t).2 := ⟨_, rfl⟩
          rw [← her, ← hqq] at KFx HSG
          clear her hqq hq
          go_upto_region 13 with (go_at_call 51; refine (KHx.out _).mono ?_; rintro e w7 ⟨rfl, hb7⟩)
          have hO7 := hO.more hb7
          have hS7 : SW w5 w7 := Below.trans hS (Below.mono hb7 hS.size)
          have y0 := bel_cell hb7 y0
          have y1 := bel_cell hb7 y1
          have y7 := bel_cell hb7 y7
          have y8 := bel_cell hb7 y8
          have e0 := E0.out _ hS7
          have e1 := E1.out _ hS7
          clear y2 y3 y4 hO hS hb7 HH
          go_upto_region 14 with (go_at_call 14; refine (KFx.out _ hS7).mono ?_; rintro e w8 ⟨rfl, hb8⟩)
          have hbq := bel_alloc w8 (.cells #[.string q.car, .int .i64 q.num, .int .i64 q.day, .string q.f, .string q.t, .int .i64 q.dep, .int .i64 q.arr] segT)
          have hO9 := (hO7.more hb8).more hbq
          have hS9 : SW w5 (w8.alloc (.cells #[.string q.car, .int .i64 q.num, .int .i64 q.day, .string q.f, .string q.t, .int .i64 q.dep, .int .i64 q.arr] segT)) := Below.trans hS7 (Below.mono (Below.trans hb8 (Below.mono hbq hb8.size)) hS7.size)
          have s0 := (cells_new w8 #[.string q.car, .int .i64 q.num, .int .i64 q.day, .string q.f, .string q.t, .int .i64 q.dep, .int .i64 q.arr] segT 0).trans (show _ = some (Value.string q.car) from rfl)
          have s1 := (cells_new w8 #[.string q.car, .int .i64 q.num, .int .i64 q.day, .string q.f, .string q.t, .int .i64 q.dep, .int .i64 q.arr] segT 1).trans (show _ = some (Value.int .i64 q.num) from rfl)
          have s2 := (cells_new w8 #[.string q.car, .int .i64 q.num, .int .i64 q.day, .string q.f, .string q.t, .int .i64 q.dep, .int .i64 q.arr] segT 2).trans (show _ = some (Value.int .i64 q.day) from rfl)
          have s3 := (cells_new w8 #[.string q.car, .int .i64 q.num, .int .i64 q.day, .string q.f, .string q.t, .int .i64 q.dep, .int .i64 q.arr] segT 3).trans (show _ = some (Value.string q.f) from rfl)
          have s4 := (cells_new w8 #[.string q.car, .int .i64 q.num, .int .i64 q.day, .string q.f, .string q.t, .int .i64 q.dep, .int .i64 q.arr] segT 4).trans (show _ = some (Value.string q.t) from rfl)
          have s5 := (cells_new w8 #[.string q.car, .int .i64 q.num, .int .i64 q.day, .string q.f, .string q.t, .int .i64 q.dep, .int .i64 q.arr] segT 5).trans (show _ = some (Value.int .i64 q.dep) from rfl)
          have s6 := (cells_new w8 #[.string q.car, .int .i64 q.num, .int .i64 q.day, .string q.f, .string q.t, .int .i64 q.dep, .int .i64 q.arr] segT 6).trans (show _ = some (Value.int .i64 q.arr) from rfl)
          generalize hBQ : w8.heap.size = BQ at *
          generalize hw9 : w8.alloc (.cells #[.string q.car, .int .i64 q.num, .int .i64 q.day, .string q.f, .string q.t, .int .i64 q.dep, .int .i64 q.arr] segT) = w9 at *
          clear y0 y1 y7 y8 e0 e1 hO7 hb8 hS7 hbq hBQ hw9
          by_cases hz : er = 0
          · have HG : Hid (spart p.l fs sh day (sh.take (k + 1)) = spart p.l fs sh day (sh.take k) ++ [q]) := Lib.hid (by
              unfold spart
              rw [HTK.out, HSG.out, if_pos hz])
            subst hz
            go_wp2_with (at_builtin; refine wpList_rapp rtG rfl _ _ rfl hO9 rfl (bel_alloc _ _) _ q _ rfl (cs := #[.string q.car, .int .i64 q.num, .int .i64 q.day, .string q.f, .string q.t, .int .i64 q.dep, .int .i64 q.arr]) rfl (heap_alloc_new _ _) HLm.out ?_; intro v1 w1 hO1 hC1)
            have HY : Hid (ROwn segT 7 encSg w5.heap.size w1 v1 (fpart p.l fs day ++ spart p.l fs sh day (sh.take (k + 1))) ∧ SW w5 w1) := Lib.hid (by
              rw [HG.out, ← List.append_assoc]
              exact ⟨hO1, Below.trans hS9 (hC1.below (B := w5.heap.size) hO9)⟩)
            clear s0 s1 s2 s3 s4 s5 s6 hO9 hS9 hO1 hC1
            go_roundg (ns - (k + 1))
            case measure => have := HKX.out; omega
            case rel => exact ⟨_, k + 1, rfl, by go_num, HNX.out, HY⟩
          · have HY : Hid (ROwn segT 7 encSg w5.heap.size w9 v (fpart p.l fs day ++ spart p.l fs sh day (sh.take (k + 1))) ∧ SW w5 w9) := Lib.hid (by
              refine ⟨?_, hS9⟩
              unfold spart
              rw [HTK.out, HSG.out, if_neg hz, List.append_nil]
              exact hO9)
            have g1 : (er == 0) = false := by simpa using hz
            clear s0 s1 s2 s3 s4 s5 s6 hO9 hS9 HSG KFx
            go_wp2
            clear g1 hz
            go_roundg (ns - (k + 1))
            case measure => have := HKX.out; omega
            case rel => exact ⟨_, k + 1, rfl, by go_num, HNX.out, HY⟩
    have i1 : (k : Int) < (nf : Int) := by omega
    obtain ⟨f, hf⟩ : ∃ f, fs[k]? = some f := ⟨_, List.getElem?_eq_getElem (by have := HNF.out; omega)⟩
    obtain ⟨bb, o, e1, hgl, hc⟩ := RowL.at6 (HV.out.row.more (HT.out _ HH.out.2)) hf
    subst e1
    have HTK := Lib.hid (flatMap_take (g := fun f => segsL (legF p.l f day)) hf)
    have HNX : Hid (k + 1 + (nf - (k + 1)) = nf) := Lib.hid (by omega)
    have KSf := Lib.hid (KS.out f (List.mem_of_getElem? hf))
    have HLm : Hid ((fpart p.l (fs.take k) day).length + (segsL (legF p.l f day)).length ≤ 100000000) := Lib.hid (by
      have h1 := fpart_bd (L := p.l) (day := day) k HOT.out.lg HOT.out.len
      have h2 := segsL_bd p.l f day (HOT.out.lg f (List.mem_of_getElem? hf))
      omega)
    have HLE : Hid (legE f day ≠ 0 → legF p.l f day = []) := Lib.hid (fun h => legF_err h)
    have z0 := hc 0 _ rfl
    have z1 := hc 1 _ rfl
    have z2 := hc 2 _ rfl
    have z3 := hc 3 _ rfl
    have z4 := hc 4 _ rfl
    have z5 := hc 5 _ rfl
    rw [Nat.add_zero] at z0
    clear hc hgl hf hkx
    have KHf := Lib.hid (KH.out f.pf f.pt f.pd)
    have HLG : Hid (Per.hasQ (f.pf, f.pt, f.pd) day = false → legF p.l f day = []) := Lib.hid (fun h => by unfold legF; rw [if_neg (by rw [h]; simp)])
    cases hq : Per.hasQ (f.pf, f.pt, f.pd) day with
    | false =>
      rw [hq] at KHf
      have HN0 := Lib.hid (HLG.out hq)
      clear hq
      go_wp2_with (go_at_call 51; refine (KHf.out _).mono ?_; rintro e w7 ⟨rfl, hb7⟩)
      have HY : Hid (ROwn segT 7 encSg w5.heap.size w7 v (fpart p.l (fs.take (k + 1)) day) ∧ SW w5 w7) := Lib.hid (by
        refine ⟨?_, Below.trans HH.out.2 (Below.mono hb7 HH.out.2.size)⟩
        unfold fpart
        rw [HTK.out, HN0.out, segsL_nil, List.append_nil]
        exact HH.out.1.more hb7)
      clear hb7 z0 z1 z2 z3 z4 z5 HH
      go_roundg (nf - (k + 1))
      case measure => have := HKX.out; omega
      case rel => exact ⟨_, k + 1, rfl, by go_num, HNX.out, HY⟩
    | true =>
      rw [hq] at KHf
      clear hq
      go_upto_region 6 with (go_at_call 51; refine (KHf.out _).mono ?_; rintro e w6 ⟨rfl, hb6⟩)
      have HO6 := Lib.hid (HH.out.1.more hb6)
      have HS6 : Hid (SW w5 w6) := Lib.hid (Below.trans HH.out.2 (Below.mono hb6 HH.out.2.size))
      have e0 := E0.out _ HS6.out
      have e1 := E1.out _ HS6.out
      have f0 : ∀ W, SW w6 W → W.cell? ⟨B, 0, none⟩ = some (Value.slice p.A p.l.length p.ca) := fun W h => bel_get e0 _ h
      have f1 : ∀ W, SW w6 W → W.cell? ⟨B, 1, none⟩ = some (Value.slice p.D p.ds.length p.cd) := fun W h => bel_get e1 _ h
      have g0 : ∀ W, SW w6 W → W.cell? ⟨bb, o + k * 6, none⟩ = some (Value.string f.car) := fun W h => bel_get (bel_cell hb6 z0) _ h
      have g1 : ∀ W, SW w6 W → W.cell? ⟨bb, o + k * 6 + 1, none⟩ = some (Value.int .i64 f.num) := fun W h => bel_get (bel_cell hb6 z1) _ h
      have g2 : ∀ W, SW w6 W → W.cell? ⟨bb, o + k * 6 + 2, none⟩ = some (Value.int .i64 f.pf) := fun W h => bel_get (bel_cell hb6 z2) _ h
      have g3 : ∀ W, SW w6 W → W.cell? ⟨bb, o + k * 6 + 3, none⟩ = some (Value.int .i64 f.pt) := fun W h => bel_get (bel_cell hb6 z3) _ h
      have g4 : ∀ W, SW w6 W → W.cell? ⟨bb, o + k * 6 + 4, none⟩ = some (Value.int .i64 f.pd) := fun W h => bel_get (bel_cell hb6 z4) _ h
      have g5 : ∀ W, SW w6 W → W.cell? ⟨bb, o + k * 6 + 5, none⟩ = some (Value.slice f.A f.lg.length f.c) := fun W h => bel_get (bel_cell hb6 z5) _ h
      clear z0 z1 z2 z3 z4 z5 hb6 HH e0 e1 KHf HLG
      have hS : (SW w6) _ := SW.drew _
      refine wp_region_held_drew (S := SW w6) (by kernel_rfl) hS (fun _ => ?_)
      refine wpAnyH_take (i := 0) (v := ?vS0) rfl (by kernel_rfl) (by kernel_rfl) (by kernel_rfl) (fun _ _ _ h => h) (Or.inl ⟨by rfl, ?hyS0⟩) hS ?restS0
      case hyS0 =>
        intro w hSw
        have k0 := f0 w hSw; have k1 := f1 w hSw; have k2 := g0 w hSw; have k3 := g1 w hSw; have k4 := g2 w hSw; have k5 := g3 w hSw; have k6 := g4 w hSw; have k7 := g5 w hSw
        first | (go_simp; done) | (go_simp; with_reducible rfl)
      try simp only [Act.put, List.setIfInBounds_toArray, List.set_cons_zero, List.set_cons_succ]
      refine wpAnyH_take (i := 1) (v := ?vS1) rfl (by kernel_rfl) (by kernel_rfl) (by kernel_rfl) (fun _ _ _ h => h) (Or.inl ⟨by rfl, ?hyS1⟩) hS ?restS1
      case hyS1 =>
        intro w hSw
        first | (go_simp; done) | (go_simp; with_reducible rfl)
      try simp only [Act.put, List.setIfInBounds_toArray, List.set_cons_zero, List.set_cons_succ]
      refine wpAnyH_take (i := 2) (v := ?vS2) rfl (by kernel_rfl) (by kernel_rfl) (by kernel_rfl) (fun _ _ _ h => h) (Or.inl ⟨by rfl, ?hyS2⟩) hS ?restS2
      case hyS2 =>
        intro w hSw
        first | (go_simp; done) | (go_simp; with_reducible rfl)
      try simp only [Act.put, List.setIfInBounds_toArray, List.set_cons_zero, List.set_cons_succ]
      refine wpAnyH_take (i := 3) (v := ?vS3) rfl (by kernel_rfl) (by kernel_rfl) (by kernel_rfl) (fun _ _ _ h => h) (Or.inl ⟨by rfl, ?hyS3⟩) hS ?restS3
      case hyS3 =>
        intro w hSw
        have k0 := f0 w hSw; have k1 := f1 w hSw; have k2 := g0 w hSw; have k3 := g1 w hSw; have k4 := g2 w hSw; have k5 := g3 w hSw; have k6 := g4 w hSw; have k7 := g5 w hSw
        first | (go_simp; done) | (go_simp; with_reducible rfl)
      try simp only [Act.put, List.setIfInBounds_toArray, List.set_cons_zero, List.set_cons_succ]
      refine wpAnyH_take (i := 4) (v := ?vS4) rfl (by kernel_rfl) (by kernel_rfl) (by kernel_rfl) (fun _ _ _ h => h) (Or.inl ⟨by rfl, ?hyS4⟩) hS ?restS4
      case hyS4 =>
        intro w hSw
        have k0 := f0 w hSw; have k1 := f1 w hSw; have k2 := g0 w hSw; have k3 := g1 w hSw; have k4 := g2 w hSw; have k5 := g3 w hSw; have k6 := g4 w hSw; have k7 := g5 w hSw
        first | (go_simp; done) | (go_simp; with_reducible rfl)
      try simp only [Act.put, List.setIfInBounds_toArray, List.set_cons_zero, List.set_cons_succ]
      refine wpAnyH_take (i := 5) (v := ?vS5) rfl (by kernel_rfl) (by kernel_rfl) (by kernel_rfl) (fun _ _ _ h => h) (Or.inl ⟨by rfl, ?hyS5⟩) hS ?restS5
      case hyS5 =>
        intro w hSw
        first | (go_simp; done) | (go_simp; with_reducible rfl)
      try simp only [Act.put, List.setIfInBounds_toArray, List.set_cons_zero, List.set_cons_succ]
      refine wpAnyH_ready (rs := [6]) (by kernel_rfl) (by simp) ?_
      refine AllReadyH.cons rfl (fun K hK => ?_) AllReadyH.nil
      go_simp
      go_wp2_with ((go_at_call 48; refine (KSf.out _ (Below.trans HS6.out (Below.mono hS HS6.out.size))).mono ?_; rintro e w7 ⟨vs, rfl, hR7, hb7⟩; have hS := Below.trans hS (Below.mono hb7 hS.size); have hO7 := HO6.out.more hS; have hS7 : SW w5 w7 := Below.trans HS6.out (Below.mono hS HS6.out.size)))
      refine hK.out _ _ hS (fun _ => ?_)
      clear hK K
      refine wpAnyH_take (i := 7) (v := ?vS7) rfl (by kernel_rfl) (by kernel_rfl) (by kernel_rfl) (fun _ _ _ h => h) (Or.inl ⟨by rfl, ?hyS7⟩) hS ?restS7
      case hyS7 =>
        intro w hSw
        first | (go_simp; done) | (go_simp; with_reducible rfl)
      try simp only [Act.put, List.setIfInBounds_toArray, List.set_cons_zero, List.set_cons_succ]
      refine wpAnyH_take (i := 8) (v := ?vS8) rfl (by kernel_rfl) (by kernel_rfl) (by kernel_rfl) (fun _ _ _ h => h) (Or.inl ⟨by rfl, ?hyS8⟩) hS ?restS8
      case hyS8 =>
        intro w hSw
        first | (go_simp; done) | (go_simp; with_reducible rfl)
      try simp only [Act.put, List.setIfInBounds_toArray, List.set_cons_zero, List.set_cons_succ]
      refine wpAnyH_take (i := 9) (v := ?vS9) rfl (by kernel_rfl) (by kernel_rfl) (by kernel_rfl) (fun _ _ _ h => h) (Or.inl ⟨by rfl, ?hyS9⟩) hS ?restS9
      case hyS9 =>
        intro w hSw
        first | (go_simp; done) | (go_simp; with_reducible rfl)
      try simp only [Act.put, List.setIfInBounds_toArray, List.set_cons_zero, List.set_cons_succ]
      refine wpAnyH_take (i := 10) (v := ?vS10) rfl (by kernel_rfl) (by kernel_rfl) (by kernel_rfl) (fun _ _ _ h => h) (Or.inl ⟨by rfl, ?hyS10⟩) hS ?restS10
      case hyS10 =>
        intro w hSw
        first | (go_simp; done) | (go_simp; with_reducible rfl)
      try simp only [Act.put, List.setIfInBounds_toArray, List.set_cons_zero, List.set_cons_succ]
      refine wpAnyH_take (i := 11) (v := ?vS11) rfl (by kernel_rfl) (by kernel_rfl) (by kernel_rfl) (fun _ _ _ h => h) (Or.inl ⟨by rfl, ?hyS11⟩) hS ?restS11
      case hyS11 =>
        intro w hSw
        first | (go_simp; done) | (go_simp; with_reducible rfl)
      try simp only [Act.put, List.setIfInBounds_toArray, List.set_cons_zero, List.set_cons_succ]
      refine wpAnyH_done (by kernel_rfl) ?_ _
      try simp only [List.getElem_toArray, List.getElem_cons_succ, List.getElem_cons_zero, List.set_cons_zero, List.set_cons_succ]
      try simp only [List.setIfInBounds_toArray, List.set_cons_zero, List.set_cons_succ]
      go_wp2_with (at_builtin; refine wpList_rappl rtG rfl _ _ rfl hO7 rfl (segsL (legF p.l f day)) _ rfl hR7 HLm.out ?_; intro v1 w1 hO1 hC1)
      have HY : Hid (ROwn segT 7 encSg w5.heap.size w1 v1 (fpart p.l (fs.take (k + 1)) day) ∧ SW w5 w1) := Lib.hid (by
        unfold fpart
        rw [HTK.out]
        exact ⟨hO1, Below.trans hS7 (hC1.below (B := w5.heap.size) hO7)⟩)
      clear hO7 hS7 hO1 hC1 hR7 f0 f1 g0 g1 g2 g3 g4 g5
      go_roundg (nf - (k + 1))
      case measure => have := HKX.out; omega
      case rel => exact ⟨_, k + 1, rfl, by go_num, HNX.out, HY⟩
end Go.Proofs.YtdpcjafkahhecaaGreatDoor

/- Two lists that are equal: same, sameIds. -/
namespace Go.Proofs.YtdpcjafkahhecaaGreatDoor
open Go.RowKit Go.Shelf Go.Maps
set_option linter.unusedSimpArgs false
set_option linter.unusedVariables false

set_option maxRecDepth 100000 in
set_option maxHeartbeats 4000000 in
theorem same9_any (u v : Value) (L : List Sg) (w : World) (hn : L.length ≤ 1000000) (hu : RowL 7 encSg w u L) (hv : RowL 7 encSg w v L) :
    Calls Tryz.prog 17 #[u, v] w fun e w' => e = .returned (.bool true) ∧ Below w.heap.size w w' := by
  obtain ⟨A1, c1, rfl, _⟩ := id hu
  obtain ⟨A2, c2, rfl, _⟩ := id hv
  have HU := Lib.hid hu
  have HV := Lib.hid hv
  clear hu hv
  go_enter Tryz.func17, Tryz.ntmps17
  go_wp2
  go_loopw [5] (fun vi wr => ∃ k : Nat, k ≤ L.length ∧ vi = .int .i64 k ∧ SW w wr) (fun vi _ => L.length - (intOf vi).toNat)
  case atStart => exact ⟨0, Nat.zero_le _, rfl, Below.refl _ _⟩
  case round =>
    obtain ⟨k, hk, rfl, hS⟩ := hrel
    by_cases hlt : k < L.length
    · obtain ⟨y, hy⟩ : ∃ y, L[k]? = some y := ⟨_, List.getElem?_eq_getElem hlt⟩
      obtain ⟨b1, o1, e1, hb1, hc1⟩ := RowL.at7 (HU.out.more hS) hy
      obtain ⟨b2, o2, e2, hb2, hc2⟩ := RowL.at7 (HV.out.more hS) hy
      cases e1
      cases e2
      have i2 : (k : Int) < (L.length : Int) := by omega
      have HX := Lib.hid hc1
      have HY := Lib.hid hc2
      have HSr := Lib.hid hS
      clear hc1 hc2 hy hS
      have x0 := HX.out 0 _ rfl
      have y0 := HY.out 0 _ rfl
      have x1 := HX.out 1 _ rfl
      have y1 := HY.out 1 _ rfl
      have x2 := HX.out 2 _ rfl
      have y2 := HY.out 2 _ rfl
      have x3 := HX.out 3 _ rfl
      have y3 := HY.out 3 _ rfl
      have x4 := HX.out 4 _ rfl
      have y4 := HY.out 4 _ rfl
      have x5 := HX.out 5 _ rfl
      have y5 := HY.out 5 _ rfl
      have x6 := HX.out 6 _ rfl
      have y6 := HY.out 6 _ rfl
      rw [Nat.add_zero] at x0 y0
      have x0 := SW.cell x0
      have y0 := SW.cell y0
      have x1 := SW.cell x1
      have y1 := SW.cell y1
      have x2 := SW.cell x2
      have y2 := SW.cell y2
      have x3 := SW.cell x3
      have y3 := SW.cell y3
      have x4 := SW.cell x4
      have y4 := SW.cell y4
      have x5 := SW.cell x5
      have y5 := SW.cell y5
      have x6 := SW.cell x6
      have y6 := SW.cell y6
      go_upto_region 6 with fail
      have hNe : Nonempty (Wd (SW wr)) := ⟨⟨_, SW.drew _⟩⟩
      refine quietS (S := SW wr) (by kernel_rfl) (by kernel_rfl) (SW.drew _) ?_
      repeat (first | go_big_quiet_skip | (go_big_quiet_want; go_big_quiet_op; first | go_big_quiet_on | go_big_quiet_call ((fail))))
      refine wpQuiet_nil ?_
      rintro W ⟨⟨_, hW⟩, rfl⟩
      go_wp2
      go_roundw
      case rel => exact ⟨k + 1, by omega, by go_num, Below.trans HSr.out (Below.mono hW HSr.out.size)⟩
      case measure => simp [intOf]; omega
    · have i2 : ¬ (k : Int) < (L.length : Int) := by omega
      go_wp2
      go_ret
      exact ⟨rfl, hS⟩

set_option maxRecDepth 100000 in
set_option maxHeartbeats 4000000 in
theorem sameIds_any (u v : Value) (L : List Idd) (w : World) (hn : L.length ≤ 1000000) (hu : RowL 4 encI w u L) (hv : RowL 4 encI w v L) :
    Calls Tryz.prog 23 #[u, v] w fun e w' => e = .returned (.bool true) ∧ Below w.heap.size w w' := by
  obtain ⟨A1, c1, rfl, _⟩ := id hu
  obtain ⟨A2, c2, rfl, _⟩ := id hv
  have HU := Lib.hid hu
  have HV := Lib.hid hv
  clear hu hv
  go_enter Tryz.func23, Tryz.ntmps23
  go_wp2
  go_loopw [5] (fun vi wr => ∃ k : Nat, k ≤ L.length ∧ vi = .int .i64 k ∧ SW w wr) (fun vi _ => L.length - (intOf vi).toNat)
  case atStart => exact ⟨0, Nat.zero_le _, rfl, Below.refl _ _⟩
  case round =>
    obtain ⟨k, hk, rfl, hS⟩ := hrel
    by_cases hlt : k < L.length
    · obtain ⟨y, hy⟩ : ∃ y, L[k]? = some y := ⟨_, List.getElem?_eq_getElem hlt⟩
      obtain ⟨b1, o1, e1, hb1, hc1⟩ := RowL.at4 (HU.out.more hS) hy
      obtain ⟨b2, o2, e2, hb2, hc2⟩ := RowL.at4 (HV.out.more hS) hy
      cases e1
      cases e2
      have i2 : (k : Int) < (L.length : Int) := by omega
      have HX := Lib.hid hc1
      have HY := Lib.hid hc2
      have HSr := Lib.hid hS
      clear hc1 hc2 hy hS
      have x0 := HX.out 0 _ rfl
      have y0 := HY.out 0 _ rfl
      have x1 := HX.out 1 _ rfl
      have y1 := HY.out 1 _ rfl
      have x2 := HX.out 2 _ rfl
      have y2 := HY.out 2 _ rfl
      have x3 := HX.out 3 _ rfl
      have y3 := HY.out 3 _ rfl
      rw [Nat.add_zero] at x0 y0
      have x0 := SW.cell x0
      have y0 := SW.cell y0
      have x1 := SW.cell x1
      have y1 := SW.cell y1
      have x2 := SW.cell x2
      have y2 := SW.cell y2
      have x3 := SW.cell x3
      have y3 := SW.cell y3
      go_upto_region 6 with fail
      have hNe : Nonempty (Wd (SW wr)) := ⟨⟨_, SW.drew _⟩⟩
      refine quietS (S := SW wr) (by kernel_rfl) (by kernel_rfl) (SW.drew _) ?_
      repeat (first | go_big_quiet_skip | (go_big_quiet_want; go_big_quiet_op; first | go_big_quiet_on | go_big_quiet_call ((fail))))
      refine wpQuiet_nil ?_
      rintro W ⟨⟨_, hW⟩, rfl⟩
      go_wp2
      go_roundw
      case rel => exact ⟨k + 1, by omega, by go_num, Below.trans HSr.out (Below.mono hW HSr.out.size)⟩
      case measure => simp [intOf]; omega
    · have i2 : ¬ (k : Int) < (L.length : Int) := by omega
      go_wp2
      go_ret
      exact ⟨rfl, hS⟩
end Go.Proofs.YtdpcjafkahhecaaGreatDoor

/- The examples of the law as plain data; what makes them. -/
namespace Go.Proofs.YtdpcjafkahhecaaGreatDoor
open Go.RowKit Go.Shelf Go.Maps
set_option linter.unusedSimpArgs false
set_option linter.unusedVariables false

def e9A : List Air := [⟨⟨#[76, 72, 82]⟩, ⟨#[76, 79, 78]⟩, ⟨#[71, 66]⟩, 0, none, 0, []⟩, ⟨⟨#[74, 70, 75]⟩, ⟨#[78, 89, 67]⟩, ⟨#[85, 83]⟩, -300, none, 0, []⟩]
def e9G : Lg := ⟨⟨#[76, 72, 82]⟩, ⟨#[74, 70, 75]⟩, 600, 780, ⟨#[55, 55, 55]⟩⟩
def e9F (A : Option Addr) (c : Nat) : FV := ⟨⟨#[66, 65]⟩, 2, 9497, 9506, 127, A, c, [e9G]⟩
def e9S (ub : Int) : Sh := ⟨⟨#[65, 70]⟩, 900, 9497, ub, 1, ⟨#[66, 65]⟩, 2, ⟨#[76, 72, 82]⟩, ⟨#[74, 70, 75]⟩⟩
def e9P (N : Nat) : PV := ⟨some ⟨N, 0, none⟩, 2, e9A, none, 0, []⟩
def e9s : Sg := ⟨⟨#[65, 70]⟩, 900, 9501, ⟨#[76, 72, 82]⟩, ⟨#[74, 70, 75]⟩, 13682040, 13682520⟩
def e9o : Sg := { e9s with car := ⟨#[66, 65]⟩, num := 2 }
def e9d : Dt := ⟨⟨#[66, 65]⟩, 2, 9501, ⟨#[76, 72, 82]⟩, ⟨#[74, 70, 75]⟩, 13682040, 13682520, ⟨#[55, 55, 55]⟩⟩
theorem e9_ok : ∀ a ∈ e9A, OkZ a.off a.shs := by
  intro a ha
  simp only [e9A, List.mem_cons, List.not_mem_nil, or_false] at ha
  rcases ha with rfl | rfl <;> exact errZ_ok (by decide)
theorem e9_okP (N : Nat) : OkPl (e9P N) := ⟨by show e9A.length ≤ 40; decide, by
  intro a ha
  have ha : a ∈ e9A := ha
  simp only [e9A, List.mem_cons, List.not_mem_nil, or_false] at ha
  rcases ha with rfl | rfl <;> simp, e9_ok⟩
theorem e9_okT (A : Option Addr) (c : Nat) : OkT [e9F A c] := ⟨by simp, by
  intro f hf
  rw [List.mem_singleton] at hf
  subst hf
  show [e9G].length ≤ 100
  decide, by
  intro f hf x hx
  rw [List.mem_singleton] at hf
  subst hf
  have hx : x ∈ [e9G] := hx
  rw [List.mem_singleton] at hx
  subst hx
  decide⟩
theorem e9_find1 (A : Option Addr) (c : Nat) : soldF e9A [e9F A c] [e9S 9506] ⟨#[65, 70]⟩ 900 9501 ⟨#[76, 72, 82]⟩ ⟨#[74, 70, 75]⟩ = (0, e9s) := by kernel_rfl
theorem e9_find2 (A : Option Addr) (c : Nat) : soldF e9A [e9F A c] [e9S 9506] ⟨#[65, 70]⟩ 900 9502 ⟨#[76, 72, 82]⟩ ⟨#[74, 70, 75]⟩ = (7, sgZ) := by kernel_rfl
theorem e9_oper : operF [e9S 9506] e9s = e9o := by kernel_rfl
theorem e9_on (A : Option Addr) (c : Nat) : onF [e9F A c] e9o.car e9o.num e9o.day = some (e9F A c) := by
  unfold onF
  rw [List.find?_cons_of_pos]
  exact (show onB e9o.car e9o.num e9o.day (e9F A c) = onB e9o.car e9o.num e9o.day (e9F none 0) from rfl).trans (by decide +kernel)
theorem e9_legE (A : Option Addr) (c : Nat) : legE (e9F A c) 9501 = 0 := (show legE (e9F A c) 9501 = legE (e9F none 0) 9501 from rfl).trans (by decide +kernel)
theorem e9_dep : depL e9A e9G 9501 = 13682040 := by decide +kernel
theorem e9_arr : arrL e9A e9G 9501 = 13682520 := by decide +kernel
theorem e9_legF (A : Option Addr) (c : Nat) : legF e9A (e9F A c) 9501 = [e9d] := by
  have h : Per.hasQ (9497, 9506, 127) 9501 = true := by decide +kernel
  show (if Per.hasQ (9497, 9506, 127) 9501 then [datL e9A (e9F A c) 9501 e9G] else []) = _
  rw [if_pos h]
  show [(⟨⟨#[66, 65]⟩, 2, 9501, ⟨#[76, 72, 82]⟩, ⟨#[74, 70, 75]⟩, depL e9A e9G 9501, arrL e9A e9G 9501, ⟨#[55, 55, 55]⟩⟩ : Dt)] = _
  rw [e9_dep, e9_arr]
  rfl
set_option maxHeartbeats 2000000 in
theorem e9_sold (A : Option Addr) (c : Nat) : (soldL e9A [e9F A c] [e9S 9506] 9501).length = 2 := by kernel_rfl
set_option maxHeartbeats 2000000 in
theorem e9_chk1 (A : Option Addr) (c : Nat) : shrF [e9F A c] [e9S 9506] 1 = [] := by kernel_rfl
set_option maxHeartbeats 2000000 in
theorem e9_chk2 (A : Option Addr) (c : Nat) : shrF [e9F A c] [e9S 9515] 1 = [(7, ⟨#[115, 104, 97, 114, 101, 32, 48]⟩)] := by kernel_rfl
end Go.Proofs.YtdpcjafkahhecaaGreatDoor
