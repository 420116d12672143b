/- Words and walks that the laws below ask: SgD, SchF2. -/
import Derived.Test.YtdpcjafkahhecaaGreatDoorPk9
import Derived.Test.YtdpcjafkahhecaaGreatDoorPk10
import Derived.Test.YtdpcjafkahhecaaGreatDoorPk12
/- Walks of the reference's Legs and Segs. -/
namespace Go.Proofs.YtdpcjafkahhecaaGreatDoor
open Go.RowKit Go.Shelf
set_option linter.unusedSimpArgs false
set_option linter.unusedVariables false

set_option maxRecDepth 100000 in
set_option maxHeartbeats 8000000 in
theorem rlegsT_any (p : PV) (f : FV) (day : Int) (w : World) (hl : p.l.length ≤ 40) (hL : AirL w p.A p.l) (hz : ∀ a ∈ p.l, OkZ a.off a.shs) (hG : LegL w (.slice f.A f.lg.length f.c) f.lg) (hn : f.lg.length ≤ 100)
    (hm : ∀ x ∈ f.lg, (-1000000 ≤ x.dep ∧ x.dep ≤ 1000000) ∧ -1000000 ≤ x.arr ∧ x.arr ≤ 1000000) (hd1 : -9223372036854775808 ≤ day) (hd2 : day ≤ 9223372036854775807) :
    Calls Tryz.prog 72 #[encP p, encFl f, .int .i64 day] w fun e w' => ∃ v, e = .returned (.tuple #[v, .int .i64 (legE f day)]) ∧ ROwn datT 8 encDt w.heap.size w' v (legF p.l f day) ∧ Below w.heap.size w w' := by
  have hb1 := bel_alloc w (.cells #[.slice p.A p.l.length p.ca, .slice p.D p.ds.length p.cd] placesT)
  have hb2 := bel_alloc (w.alloc (.cells #[.slice p.A p.l.length p.ca, .slice p.D p.ds.length p.cd] placesT)) (.cells #[.string f.car, .int .i64 f.num, .int .i64 f.pf, .int .i64 f.pt, .int .i64 f.pd, .slice f.A f.lg.length f.c] fliT)
  have hb0 := hb1.trans (hb2.mono hb1.size)
  have p0 := bel_cell hb2 ((cells_new w #[.slice p.A p.l.length p.ca, .slice p.D p.ds.length p.cd] placesT 0).trans (show _ = some (.slice p.A p.l.length p.ca) from rfl))
  have p1 := bel_cell hb2 ((cells_new w #[.slice p.A p.l.length p.ca, .slice p.D p.ds.length p.cd] placesT 1).trans (show _ = some (.slice p.D p.ds.length p.cd) from rfl))
  have q0 := (cells_new (w.alloc (.cells #[.slice p.A p.l.length p.ca, .slice p.D p.ds.length p.cd] placesT)) #[.string f.car, .int .i64 f.num, .int .i64 f.pf, .int .i64 f.pt, .int .i64 f.pd, .slice f.A f.lg.length f.c] fliT 0).trans (show _ = some (Value.string f.car) from rfl)
  have q1 := (cells_new (w.alloc (.cells #[.slice p.A p.l.length p.ca, .slice p.D p.ds.length p.cd] placesT)) #[.string f.car, .int .i64 f.num, .int .i64 f.pf, .int .i64 f.pt, .int .i64 f.pd, .slice f.A f.lg.length f.c] fliT 1).trans (show _ = some (Value.int .i64 f.num) from rfl)
  have q2 := (cells_new (w.alloc (.cells #[.slice p.A p.l.length p.ca, .slice p.D p.ds.length p.cd] placesT)) #[.string f.car, .int .i64 f.num, .int .i64 f.pf, .int .i64 f.pt, .int .i64 f.pd, .slice f.A f.lg.length f.c] fliT 2).trans (show _ = some (Value.int .i64 f.pf) from rfl)
  have q3 := (cells_new (w.alloc (.cells #[.slice p.A p.l.length p.ca, .slice p.D p.ds.length p.cd] placesT)) #[.string f.car, .int .i64 f.num, .int .i64 f.pf, .int .i64 f.pt, .int .i64 f.pd, .slice f.A f.lg.length f.c] fliT 3).trans (show _ = some (Value.int .i64 f.pt) from rfl)
  have q4 := (cells_new (w.alloc (.cells #[.slice p.A p.l.length p.ca, .slice p.D p.ds.length p.cd] placesT)) #[.string f.car, .int .i64 f.num, .int .i64 f.pf, .int .i64 f.pt, .int .i64 f.pd, .slice f.A f.lg.length f.c] fliT 4).trans (show _ = some (Value.int .i64 f.pd) from rfl)
  have q5 := (cells_new (w.alloc (.cells #[.slice p.A p.l.length p.ca, .slice p.D p.ds.length p.cd] placesT)) #[.string f.car, .int .i64 f.num, .int .i64 f.pf, .int .i64 f.pt, .int .i64 f.pd, .slice f.A f.lg.length f.c] fliT 5).trans (show _ = some (Value.slice f.A f.lg.length f.c) from rfl)
  rw [World.size_alloc] at q0 q1 q2 q3 q4 q5
  have KH := Lib.hid (fun w => Per.rhas_any f.pf f.pt f.pd day w hd1 hd2)
  cases hh : Per.hasQ (f.pf, f.pt, f.pd) day with
  | false =>
    have HE : Hid (legE f day = 12 ∧ legF p.l f day = []) := Lib.hid ⟨by rw [legE, hh]; rfl, by rw [legF, hh]; rfl⟩
    rw [hh] at KH
    clear hh hz hm
    go_enter Tryz.func72, Tryz.ntmps72
    go_wp2_with (go_at_call 51; refine (KH.out _).mono ?_; rintro e w1 ⟨rfl, hbh⟩)
    have h1 := hb0.trans (Below.mono hbh hb0.size)
    exact bodyPost_ret (results_tmp2 rfl _ _ _) rfl ⟨_, by rw [HE.out.1]; rfl, by rw [HE.out.2]; exact ROwn.nil h1.size, h1⟩
  | true =>
    have hdb := has_bd hh
    have HE : Hid (legE f day = 0 ∧ legF p.l f day = f.lg.map (datL p.l f day)) := Lib.hid ⟨by rw [legE, hh]; rfl, by rw [legF, hh]; rfl⟩
    rw [hh] at KH
    have KN := Lib.hid (fun w hA hG => rlegs7_any p f day w hl hA hz hG hn hm (by omega))
    have HL := Lib.hid (hL.more hb0)
    have HG := Lib.hid (hG.more hb0)
    clear hh hz hm hL hG hd1 hd2 hdb
    generalize f.lg.map (datL p.l f day) = DL at *
    go_enter Tryz.func72, Tryz.ntmps72
    go_wp2_with (first | (go_at_call 96; refine (KN.out _ (HL.out.more hbh) (HG.out.more hbh)).mono ?_; rintro e w2 ⟨v1, rfl, hv1, hbn⟩) | (go_at_call 51; refine (KH.out _).mono ?_; rintro e w1 ⟨rfl, hbh⟩; have r0 := bel_cell hbh p0; have r1 := bel_cell hbh p1; have s0 := bel_cell hbh q0; have s1 := bel_cell hbh q1; have s2 := bel_cell hbh q2; have s3 := bel_cell hbh q3; have s4 := bel_cell hbh q4; have s5 := bel_cell hbh q5))
    have h1 := hb0.trans (Below.mono hbh hb0.size)
    exact bodyPost_ret (results_tmp2 rfl _ _ _) rfl ⟨v1, by rw [HE.out.1]; rfl, by rw [HE.out.2]; exact ⟨hv1.own.mono h1.size, Nat.le_trans h1.size hv1.base⟩, h1.trans (Below.mono hbn h1.size)⟩

set_option maxRecDepth 100000 in
set_option maxHeartbeats 8000000 in
theorem rsegs_any (p : PV) (f : FV) (day : Int) (w : World) (hl : p.l.length ≤ 40) (hL : AirL w p.A p.l) (hz : ∀ a ∈ p.l, OkZ a.off a.shs) (hG : LegL w (.slice f.A f.lg.length f.c) f.lg) (hn : f.lg.length ≤ 100)
    (hm : ∀ x ∈ f.lg, (-1000000 ≤ x.dep ∧ x.dep ≤ 1000000) ∧ -1000000 ≤ x.arr ∧ x.arr ≤ 1000000) (hd1 : -9223372036854775808 ≤ day) (hd2 : day ≤ 9223372036854775807) :
    Calls Tryz.prog 48 #[encP p, encFl f, .int .i64 day] w fun e w' => ∃ v, e = .returned (.tuple #[v, .int .i64 (legE f day)]) ∧ ROwn segT 7 encSg w.heap.size w' v (segsL (legF p.l f day)) ∧ Below w.heap.size w w' := by
  have hb1 := bel_alloc w (.cells #[.slice p.A p.l.length p.ca, .slice p.D p.ds.length p.cd] placesT)
  have hb2 := bel_alloc (w.alloc (.cells #[.slice p.A p.l.length p.ca, .slice p.D p.ds.length p.cd] placesT)) (.cells #[.string f.car, .int .i64 f.num, .int .i64 f.pf, .int .i64 f.pt, .int .i64 f.pd, .slice f.A f.lg.length f.c] fliT)
  have hb0 := hb1.trans (hb2.mono hb1.size)
  have KL := Lib.hid (rlegsT_any p f day _ hl (hL.more hb0) hz (hG.more hb0) hn hm hd1 hd2)
  have HLn : Hid ((legF p.l f day).length ≤ 100) := Lib.hid (by unfold legF; split <;> simp <;> omega)
  generalize hLF : legF p.l f day = L at *
  generalize legE f day = e0 at *
  clear hL hz hG hm hd1 hd2 hLF
  go_enter Tryz.func48, Tryz.ntmps48
  go_upto_region 4 with (go_at_call 72; refine KL.out.mono ?_; rintro e w1 ⟨v1, rfl, hO1, hbl⟩; obtain ⟨A1, c1, rfl, hvc⟩ := id (hO1.rowL rtD.len))
  have hS0 : Below w.heap.size w w1 := hb0.trans (Below.mono hbl hb0.size)
  have HV := Lib.hid (hO1.rowL rtD.len)
  clear hO1 hvc KL hbl hb1 hb2
  go_loopg [10, 11] L.length (fun kx v10 vi wr => ∃ (v : Value) (i : Nat), v = v10 ∧ vi = .int .i64 i ∧ i + kx = L.length ∧ Hid (ROwn segT 7 encSg w1.heap.size wr v (segsI L i) ∧ SW w1 wr))
  case atStart => exact ⟨_, 0, rfl, rfl, by omega, Lib.hid ⟨ROwn.nil (Nat.le_refl _), Below.refl _ _⟩⟩
  case round =>
    obtain ⟨v, i, rfl, rfl, hix, HH⟩ := hrel
    have HIX := Lib.hid hix
    have hSr : SW w1 wr := HH.out.2
    by_cases hlt : i < L.length
    · clear hix
      obtain ⟨a, ha⟩ : ∃ a, L[i]? = some a := ⟨_, List.getElem?_eq_getElem hlt⟩
      have HSS := Lib.hid (segsI_succ ha)
      have i2 : (i : Int) < (L.length : Int) := by omega
      have hle : (segsI L i).length ≤ 10000 := by
        have h1 := segsI_le L i
        have h2 := HLn.out
        have h3 : i * L.length ≤ 100 * 100 := Nat.mul_le_mul (by omega) (by omega)
        omega
      have HLE2 := Lib.hid hle
      have KS : Hid (∀ (k : Nat) (y : Dt) W, SW w1 W → L[k]? = some y → Calls Tryz.prog 73 #[.slice A1 L.length c1, .int .i64 (i : Int), .int .i64 (k : Int)] W fun e w' => e = .returned (encS7 (sgOf a y)) ∧ Below W.heap.size W w') := Lib.hid (fun k y W h hk => rseg_any A1 c1 L i k a y W (by have := HLn.out; omega) (HV.out.more h) ha hk)
      have ib : i ≤ 100 := by have := HLn.out; omega
      have HLT := Lib.hid hlt
      have HNX : Hid (i + 1 + (L.length - (i + 1)) = L.length) := Lib.hid (by omega)
      have HI0 : Hid (ROwn segT 7 encSg w1.heap.size wr v (segsI L i ++ ((L.drop i).take (i - i)).map (sgOf a)) ∧ SW w1 wr) := Lib.hid ⟨by simpa using HH.out.1, hSr⟩
      have hi0 : i + (L.length - i) = L.length := by omega
      have HL100 : Hid (L.length ≤ 100) := HLn
      clear hle ha HH hSr
      go_wp2
      go_loopg [10, 12] (L.length - i) (fun kx v10 vk wr => ∃ (u : Value) (k : Nat), u = v10 ∧ vk = .int .i64 k ∧ k + kx = L.length ∧ i ≤ k ∧ Hid (ROwn segT 7 encSg w1.heap.size wr u (segsI L i ++ ((L.drop i).take (k - i)).map (sgOf a)) ∧ SW w1 wr))
      case atStart => exact ⟨_, i, rfl, rfl, hi0, Nat.le_refl _, HI0⟩
      case round =>
        obtain ⟨u, k, rfl, rfl, hkx, hik, HK⟩ := hrel
        clear HI0 hi0
        have HKX := Lib.hid hkx
        have HIK := Lib.hid hik
        have hSq : SW w1 wr := HK.out.2
        by_cases hlk : k < L.length
        · clear hkx
          obtain ⟨y, hy⟩ : ∃ y, L[k]? = some y := ⟨_, List.getElem?_eq_getElem hlk⟩
          have j2 : (k : Int) < (L.length : Int) := by omega
          have KSy := Lib.hid (KS.out k y wr hSq hy)
          have HTk : Hid (segsI L i ++ ((L.drop i).take (k + 1 - i)).map (sgOf a) = segsI L i ++ ((L.drop i).take (k - i)).map (sgOf a) ++ [sgOf a y]) := Lib.hid (by
            have e : (L.drop i)[k - i]? = some y := by rw [List.getElem?_drop, show i + (k - i) = k by omega]; exact hy
            rw [show k + 1 - i = (k - i) + 1 by omega, List.take_add_one, e, List.map_append, List.append_assoc]
            simp)
          have HLn2 : Hid ((segsI L i ++ ((L.drop i).take (k - i)).map (sgOf a)).length ≤ 100000000) := Lib.hid (by
            have h1 := HLE2.out
            have h2 := List.length_take_le (k - i) (L.drop i)
            have h3 := HL100.out
            rw [List.length_append, List.length_map]
            omega)
          have HKN : Hid (k + 1 + (L.length - (k + 1)) = L.length ∧ i ≤ k + 1 ∧ L.length - (k + 1) < L.length - k) := Lib.hid (by omega)
          have kb : k ≤ 100 := by have := HL100.out; omega
          have hO := HK.out.1
          generalize sgOf a y = s at *
          clear hy HK hik
          go_wp2_with (first
            | (go_at_call 73; refine KSy.out.mono ?_; rintro e w8 ⟨rfl, hb8⟩; have hO := hO.more hb8; have hSq : SW w1 w8 := Below.trans hSq (Below.mono hb8 hSq.size))
            | (at_builtin; refine wpList_rapp rtG rfl _ _ rfl hO rfl (bel_alloc _ _) _ s _ rfl (cs := #[.string s.car, .int .i64 s.num, .int .i64 s.day, .string s.f, .string s.t, .int .i64 s.dep, .int .i64 s.arr]) rfl (heap_alloc_new _ _) HLn2.out ?_; intro v9 w9 hO9 hC9))
          have HY : Hid (ROwn segT 7 encSg w1.heap.size w9 v9 (segsI L i ++ ((L.drop i).take (k + 1 - i)).map (sgOf a)) ∧ SW w1 w9) := Lib.hid ⟨by rw [HTk.out]; exact hO9, Below.trans hSq (hC9.below hO)⟩
          clear hO9 hC9 hO hSq
          go_roundg (L.length - (k + 1))
          case measure => have h1 := HKX.out; have h2 := HKN.out.2.2; omega
          case rel => exact ⟨_, k + 1, rfl, by go_num, HKN.out.1, HKN.out.2.1, HY⟩
        · have hk : k = L.length := by omega
          have HY : Hid (ROwn segT 7 encSg w1.heap.size wr u (segsI L (i + 1)) ∧ SW w1 wr) := Lib.hid ⟨by
            have h := HK.out.1
            rw [List.take_of_length_le (by rw [List.length_drop]; omega)] at h
            rw [HSS.out]
            exact h, hSq⟩
          have j2 : ¬ (k : Int) < (L.length : Int) := by omega
          clear HK hkx hk hSq hik
          go_wp2
          go_roundg (L.length - (i + 1))
          case measure => have h1 := HIX.out; have h2 : i < L.length := HLT.out; omega
          case rel => exact ⟨_, i + 1, rfl, by go_num, HNX.out, HY⟩
    · have hi : i = L.length := by omega
      have HZ : Hid (ROwn segT 7 encSg w.heap.size wr v (segsL L) ∧ Below w.heap.size w wr) := Lib.hid ⟨⟨by
        have h := HH.out.1.own
        rw [hi] at h
        exact h.mono hS0.size, Nat.le_trans hS0.size hSr.size⟩, hS0.trans (Below.mono hSr hS0.size)⟩
      have i2 : ¬ (i : Int) < (L.length : Int) := by omega
      clear HH hix hi
      go_wp2
      exact bodyPost_ret (results_tmp2 rfl _ _ _) rfl ⟨v, rfl, HZ.out.1, HZ.out.2⟩

end Go.Proofs.YtdpcjafkahhecaaGreatDoor

/- Walk of the reference's Seg. -/
namespace Go.Proofs.YtdpcjafkahhecaaGreatDoor
open Go.RowKit Go.Shelf
set_option linter.unusedSimpArgs false
set_option linter.unusedVariables false

set_option maxRecDepth 100000 in
set_option maxHeartbeats 8000000 in
theorem rseg8_any (p : PV) (v : Value) (fs : List FV) (car : ByteArray) (num day : Int) (fr tt : ByteArray) (w : World) (op : fs ≠ [] → OkPl p) (ot : OkT fs) (hL : AirL w p.A p.l) (hv : TblL w v fs) (h0 : -9223372036854775808 ≤ day) (h1 : day ≤ 9223372036854775807) :
    Calls Tryz.prog 16 #[encP p, v, .string car, .int .i64 num, .int .i64 day, .string fr, .string tt] w fun e w' => e = .returned (.tuple #[encS7 (segF p.l fs car num day fr tt).2, .int .i64 (segF p.l fs car num day fr tt).1]) ∧ Below w.heap.size w w' := by
  have hb1 := bel_alloc (w) (.cells #[.slice p.A p.l.length p.ca, .slice p.D p.ds.length p.cd] placesT)
  have hb2 := bel_alloc ((w).alloc (.cells #[.slice p.A p.l.length p.ca, .slice p.D p.ds.length p.cd] placesT)) (.cells #[.string noB, .int .i64 0, .int .i64 0, .string noB, .string noB, .int .i64 0, .int .i64 0] segT)
  have hs2 := hb2
  have hs1 := hb1.trans (hs2.mono hb1.size)
  have p0 := bel_cell hs2 ((cells_new w #[.slice p.A p.l.length p.ca, .slice p.D p.ds.length p.cd] placesT 0).trans (show _ = some (Value.slice p.A p.l.length p.ca) from rfl))
  have p1 := bel_cell hs2 ((cells_new w #[.slice p.A p.l.length p.ca, .slice p.D p.ds.length p.cd] placesT 1).trans (show _ = some (Value.slice p.D p.ds.length p.cd) from rfl))
  have hN := heap_alloc_new ((w).alloc (.cells #[.slice p.A p.l.length p.ca, .slice p.D p.ds.length p.cd] placesT)) (.cells #[.string noB, .int .i64 0, .int .i64 0, .string noB, .string noB, .int .i64 0, .int .i64 0] segT)
  simp only [World.size_alloc] at hN
  have HV := Lib.hid (hv.more hs1)
  have HL := Lib.hid (hL.more hs1)
  have HB0 := Lib.hid hs1
  have HOT := Lib.hid ot
  have HOP := Lib.hid op
  have KO := Lib.hid (fun W (h : TblL W v fs) => ron_x v fs car num day W h ot.len (fun f hf => Nat.le_trans (ot.lg f hf) (by omega)) h0 h1)
  have KS := Lib.hid (fun (gm : fs ≠ []) (f : FV) W (g1 : AirL W p.A p.l) (g2 : LegL W (.slice f.A f.lg.length f.c) f.lg) (g3 : f.lg.length ≤ 100) (g4 : ∀ x ∈ f.lg, (-1000000 ≤ x.dep ∧ x.dep ≤ 1000000) ∧ -1000000 ≤ x.arr ∧ x.arr ≤ 1000000) => rsegs_any p f day W (op gm).la g1 (op gm).oz g2 g3 g4 h0 h1)
  clear hv hL ot op hb1 hb2
  go_enter Tryz.func16, Tryz.ntmps16
  go_upto_region 1 with fail
  generalize hw5 : (((w).alloc (.cells #[.slice p.A p.l.length p.ca, .slice p.D p.ds.length p.cd] placesT)).alloc (.cells #[.string noB, .int .i64 0, .int .i64 0, .string noB, .string noB, .int .i64 0, .int .i64 0] segT)) = w5 at *
  clear hw5
  have f0 := bel_get p0
  have f1 := bel_get p1
  have HN := Lib.hid hN
  have HLT5 : Hid ((w.heap.size + 1) < w5.heap.size) := Lib.hid (lt_of_cell2 hN)
  clear p0 p1 hN hs1
  cases ho : onF fs car num day with
  | none =>
    have HX := Lib.hid ho
    rw [ho] at KO
    change Hid (∀ W, TblL W v fs → Calls Tryz.prog 47 _ W (OnX fliZ false W)) at KO
    clear ho
    go_upto_region 2 with (go_at_call 47; refine (KO.out _ HV.out).mono ?_; rintro e w3 ⟨X1, A3, c3, rfl, hX1, hL1, hb3⟩; have hst1 := store_fli hX1 w3; have hsz1 : X1.size = 6 := by rw [hX1.out]; rfl)
    clear hst1 hsz1
    have hb4 := bel_alloc w3 (.cells X1 fliT)
    have hS4 : SW w5 (w3.alloc (.cells X1 fliT)) := hb3.trans (hb4.mono hb3.size)
    generalize hw4 : w3.alloc (.cells X1 fliT) = w4 at *
    clear hw4
    have hx := (Below.block hS4 _ HLT5.out).trans HN.out
    have hwb := HB0.out.trans (Below.mono hS4 HB0.out.size)
    clear hb3 hb4 hS4 hL1
    have n0 := (cell_of_row _ _ 0 _ _ (0, 0) hx).trans (show _ = some _ from rfl)
    have n1 := (cell_of_row _ _ 1 _ _ (0, 0) hx).trans (show _ = some _ from rfl)
    have n2 := (cell_of_row _ _ 2 _ _ (0, 0) hx).trans (show _ = some _ from rfl)
    have n3 := (cell_of_row _ _ 3 _ _ (0, 0) hx).trans (show _ = some _ from rfl)
    have n4 := (cell_of_row _ _ 4 _ _ (0, 0) hx).trans (show _ = some _ from rfl)
    have n5 := (cell_of_row _ _ 5 _ _ (0, 0) hx).trans (show _ = some _ from rfl)
    have n6 := (cell_of_row _ _ 6 _ _ (0, 0) hx).trans (show _ = some _ from rfl)
    have z0 := frozen_of_row _ _ 0 _ _ hx
    have z1 := frozen_of_row _ _ 1 _ _ hx
    have z2 := frozen_of_row _ _ 2 _ _ hx
    have z3 := frozen_of_row _ _ 3 _ _ hx
    have z4 := frozen_of_row _ _ 4 _ _ hx
    have z5 := frozen_of_row _ _ 5 _ _ hx
    have z6 := frozen_of_row _ _ 6 _ _ hx
    have HX2 : Hid (∀ W, W = S7 w4 (w.heap.size + 1) (.string noB) (.int .i64 0) (.int .i64 0) (.string noB) (.string noB) (.int .i64 0) (.int .i64 0) → W.heap[(w.heap.size + 1)]? = some (.cells #[.string noB, .int .i64 0, .int .i64 0, .string noB, .string noB, .int .i64 0, .int .i64 0] segT (0, 0)) ∧ Below w.heap.size w W ∧ But w4 W (fun k => k = (w.heap.size + 1))) := Lib.hid (fun W h => by rw [h]; exact ⟨S7.heap hx _ _ _ _ _ _ _, hwb.trans ((S7.but _ _ _ _ _ _ _ _ _).below (hwb).size (fun k hk => by omega)), S7.but _ _ _ _ _ _ _ _ _⟩)
    clear hx hwb
    go_wp2
    obtain ⟨hxx, hbb, hbu⟩ := HX2.out _ rfl
    unfold S7 at hxx hbb hbu
    clear HX2
    generalize hWW : ((((((w4.setCell ⟨(w.heap.size + 1), 0, none⟩ (.string noB)).setCell ⟨(w.heap.size + 1), 1, none⟩ (.int .i64 0)).setCell ⟨(w.heap.size + 1), 2, none⟩ (.int .i64 0)).setCell ⟨(w.heap.size + 1), 3, none⟩ (.string noB)).setCell ⟨(w.heap.size + 1), 4, none⟩ (.string noB)).setCell ⟨(w.heap.size + 1), 5, none⟩ (.int .i64 0)).setCell ⟨(w.heap.size + 1), 6, none⟩ (.int .i64 0) = WW at *
    clear hWW n0 n1 n2 n3 n4 n5 n6 z0 z1 z2 z3 z4 z5 z6
    have c0 := (cell_of_row WW _ 0 _ _ (0, 0) hxx).trans (show _ = some _ from rfl)
    have c1 := (cell_of_row WW _ 1 _ _ (0, 0) hxx).trans (show _ = some _ from rfl)
    have c2 := (cell_of_row WW _ 2 _ _ (0, 0) hxx).trans (show _ = some _ from rfl)
    have c3 := (cell_of_row WW _ 3 _ _ (0, 0) hxx).trans (show _ = some _ from rfl)
    have c4 := (cell_of_row WW _ 4 _ _ (0, 0) hxx).trans (show _ = some _ from rfl)
    have c5 := (cell_of_row WW _ 5 _ _ (0, 0) hxx).trans (show _ = some _ from rfl)
    have c6 := (cell_of_row WW _ 6 _ _ (0, 0) hxx).trans (show _ = some _ from rfl)
    rw [segF_none HX.out]
    refine bodyPost_ret (v := .tuple #[encS7 sgZ, .int .i64 7]) ?_ rfl ⟨rfl, hbb⟩
    simp [results, Tryz.results16, go_sem, c0, c1, c2, c3, c4, c5, c6, sgZ]
  | some f =>
    have hfm := List.mem_of_find?_eq_some ho
    have HFM := Lib.hid hfm
    clear hfm
    have HX := Lib.hid ho
    rw [ho] at KO
    change Hid (∀ W, TblL W v fs → Calls Tryz.prog 47 _ W (OnX f true W)) at KO
    clear ho
    go_upto_region 2 with (go_at_call 47; refine (KO.out _ HV.out).mono ?_; rintro e w3 ⟨X1, A3, c3, rfl, hX1, hL1, hb3⟩; have hst1 := store_fli hX1 w3; have hsz1 : X1.size = 6 := by rw [hX1.out]; rfl)
    clear hst1 hsz1
    have hb4 := bel_alloc w3 (.cells X1 fliT)
    have hS4 : SW w5 (w3.alloc (.cells X1 fliT)) := hb3.trans (hb4.mono hb3.size)
    have n0 := (cells_new w3 X1 fliT 0).trans (show X1[0]? = some (Value.string f.car) by rw [hX1.out]; rfl)
    have n1 := (cells_new w3 X1 fliT 1).trans (show X1[1]? = some (Value.int .i64 f.num) by rw [hX1.out]; rfl)
    have n2 := (cells_new w3 X1 fliT 2).trans (show X1[2]? = some (Value.int .i64 f.pf) by rw [hX1.out]; rfl)
    have n3 := (cells_new w3 X1 fliT 3).trans (show X1[3]? = some (Value.int .i64 f.pt) by rw [hX1.out]; rfl)
    have n4 := (cells_new w3 X1 fliT 4).trans (show X1[4]? = some (Value.int .i64 f.pd) by rw [hX1.out]; rfl)
    have n5 := (cells_new w3 X1 fliT 5).trans (show X1[5]? = some (Value.slice A3 f.lg.length c3) by rw [hX1.out]; rfl)
    have HL4 := Lib.hid (hL1.more hb4)
    generalize hw4 : w3.alloc (.cells X1 fliT) = w4 at *
    clear hw4 hb3 hb4 hL1
    have y0 := f0 _ hS4
    have y1 := f1 _ hS4
    have KS2 := Lib.hid (KS.out (List.ne_nil_of_mem HFM.out) (f.re A3 c3) w4 (HL.out.more hS4) HL4.out (HOT.out.lg f HFM.out) (HOT.out.hm f HFM.out))
    change Hid (Calls Tryz.prog _ _ w4 (fun e w' => ∃ v, e = .returned (.tuple #[v, .int .i64 (legE f day)]) ∧ ROwn segT 7 encSg w4.heap.size w' v (segsL (legF p.l f day)) ∧ Below w4.heap.size w4 w')) at KS2
    obtain ⟨L, hLs⟩ : ∃ L, L = segsL (legF p.l f day) := ⟨_, rfl⟩
    have HLs := Lib.hid hLs
    have hLn : L.length ≤ 10000 := by rw [hLs]; exact segs_len _ _ _ (HOT.out.lg f HFM.out)
    rw [← hLs] at KS2
    clear hLs KO KS
    generalize legE f day = le0 at KS2
    go_upto_region 5 with (go_at_call 48; refine KS2.out.mono ?_; rintro e w6 ⟨v6, rfl, hO6, hb6⟩)
    have hS6 : SW w5 w6 := Below.trans hS4 (Below.mono hb6 hS4.size)
    obtain ⟨A6, c6, rfl, hV6'⟩ := hO6.rowL rtG.len
    have hV6 : RowL 7 encSg w6 (.slice A6 L.length c6) L := ⟨A6, c6, rfl, hV6'⟩
    have HV6 := Lib.hid hV6
    clear n0 n1 n2 n3 n4 n5 y0 y1 hV6' hV6 hO6 hb6 KS2
    have HNO := Lib.hid (fun (h : ∀ (j : Nat) (g : Sg), j < L.length → L[j]? = some g → ftB fr tt g = false) => segF_miss (tt := tt) (fr := fr) HX.out (by
      rw [← HLs.out, List.find?_eq_none]
      intro x hx
      obtain ⟨j, hj⟩ := List.getElem?_of_mem hx
      rw [h j x (List.getElem?_eq_some_iff.1 hj).1 hj]
      simp))
    have HYES := Lib.hid (fun (k : Nat) (y : Sg) (hk : L[k]? = some y) (hp : ftB fr tt y = true) (hno : ∀ (j : Nat) (g : Sg), j < k → L[j]? = some g → ftB fr tt g = false) => segF_hit (tt := tt) (fr := fr) (s := y) HX.out (by
      rw [← HLs.out]
      obtain ⟨hlt, rfl⟩ := List.getElem?_eq_some_iff.1 hk
      rw [List.find?_eq_some_iff_getElem]
      refine ⟨hp, k, hlt, rfl, fun j hj => ?_⟩
      rw [hno j _ hj (List.getElem?_eq_getElem (by omega))]
      rfl))
    have HS6 := Lib.hid hS6
    clear hS6 hS4
    go_wp2
    go_loopw [20] (fun vi wr => ∃ k : Nat, k ≤ L.length ∧ vi = .int .i64 k ∧ Hid (∀ (j : Nat) (g : Sg), j < k → L[j]? = some g → ftB fr tt g = false) ∧ SW w6 wr) (fun vi _ => L.length - (intOf vi).toNat)
    case atStart => exact ⟨0, Nat.zero_le _, rfl, Lib.hid (fun j g h => absurd h (by omega)), Below.refl _ _⟩
    case round =>
      obtain ⟨k, hk, rfl, HK, hS⟩ := hrel
      by_cases hlt : k < L.length
      · obtain ⟨y, hy⟩ : ∃ y, L[k]? = some y := ⟨_, List.getElem?_eq_getElem hlt⟩
        obtain ⟨b, o, e1, hbl, hc⟩ := RowL.at7 (HV6.out.more hS) hy
        cases e1
        have i2 : (k : Int) < (L.length : Int) := by omega
        have d0 := hc 0 _ rfl
        have d1 := hc 1 _ rfl
        have d2 := hc 2 _ rfl
        have d3 := hc 3 _ rfl
        have d4 := hc 4 _ rfl
        have d5 := hc 5 _ rfl
        have d6 := hc 6 _ rfl
        rw [Nat.add_zero] at d0
        have HX2 : Hid (ftB fr tt y = false → ∀ (j : Nat) (g : Sg), j < k + 1 → L[j]? = some g → ftB fr tt g = false) := Lib.hid (fun h j g hj hg => by
          by_cases e : j = k
          · subst e
            rw [hy] at hg
            cases hg
            exact h
          · exact HK.out j g (by omega) hg)
        have HYS := Lib.hid (fun (h : ftB fr tt y = true) => HYES.out k y hy h HK.out)
        clear hc hy hbl
        cases h1 : (y.f.toList == fr.toList) with
        | false =>
          have HY := Lib.hid (HX2.out (by unfold ftB; rw [h1]; rfl))
          clear HX2
          go_wp2
          go_roundw
          case rel => exact ⟨k + 1, by omega, by go_num, HY, hS⟩
          case measure => simp [intOf]; omega
        | true =>
        cases h2 : (y.t.toList == tt.toList) with
        | false =>
          have HY := Lib.hid (HX2.out (by unfold ftB; rw [h1, h2]; rfl))
          clear HX2
          go_wp2
          go_roundw
          case rel => exact ⟨k + 1, by omega, by go_num, HY, hS⟩
          case measure => simp [intOf]; omega
        | true =>
          have HR3 := Lib.hid (HYS.out (by unfold ftB; rw [h1, h2]; rfl))
          clear HX2 HYS
          have hS8 : SW w5 wr := Below.trans HS6.out (Below.mono hS HS6.out.size)
          have hx := (Below.block hS8 _ HLT5.out).trans HN.out
          have hwb := HB0.out.trans (Below.mono hS8 HB0.out.size)
          clear hS hS8
          go_upto_region 9 with fail
          have n0 := (cell_of_row _ _ 0 _ _ (0, 0) hx).trans (show _ = some _ from rfl)
          have n1 := (cell_of_row _ _ 1 _ _ (0, 0) hx).trans (show _ = some _ from rfl)
          have n2 := (cell_of_row _ _ 2 _ _ (0, 0) hx).trans (show _ = some _ from rfl)
          have n3 := (cell_of_row _ _ 3 _ _ (0, 0) hx).trans (show _ = some _ from rfl)
          have n4 := (cell_of_row _ _ 4 _ _ (0, 0) hx).trans (show _ = some _ from rfl)
          have n5 := (cell_of_row _ _ 5 _ _ (0, 0) hx).trans (show _ = some _ from rfl)
          have n6 := (cell_of_row _ _ 6 _ _ (0, 0) hx).trans (show _ = some _ from rfl)
          have z0 := frozen_of_row _ _ 0 _ _ hx
          have z1 := frozen_of_row _ _ 1 _ _ hx
          have z2 := frozen_of_row _ _ 2 _ _ hx
          have z3 := frozen_of_row _ _ 3 _ _ hx
          have z4 := frozen_of_row _ _ 4 _ _ hx
          have z5 := frozen_of_row _ _ 5 _ _ hx
          have z6 := frozen_of_row _ _ 6 _ _ hx
          have HX2 : Hid (∀ W, W = S7 wr (w.heap.size + 1) (.string y.car) (.int .i64 y.num) (.int .i64 y.day) (.string y.f) (.string y.t) (.int .i64 y.dep) (.int .i64 y.arr) → W.heap[(w.heap.size + 1)]? = some (.cells #[.string y.car, .int .i64 y.num, .int .i64 y.day, .string y.f, .string y.t, .int .i64 y.dep, .int .i64 y.arr] segT (0, 0)) ∧ Below w.heap.size w W ∧ But wr W (fun k => k = (w.heap.size + 1))) := Lib.hid (fun W h => by rw [h]; exact ⟨S7.heap hx _ _ _ _ _ _ _, hwb.trans ((S7.but _ _ _ _ _ _ _ _ _).below (hwb).size (fun k hk => by omega)), S7.but _ _ _ _ _ _ _ _ _⟩)
          clear hx hwb
          go_wp2
          obtain ⟨hxx, hbb, hbu⟩ := HX2.out _ rfl
          unfold S7 at hxx hbb hbu
          clear HX2
          generalize hWW : ((((((wr.setCell ⟨(w.heap.size + 1), 0, none⟩ (.string y.car)).setCell ⟨(w.heap.size + 1), 1, none⟩ (.int .i64 y.num)).setCell ⟨(w.heap.size + 1), 2, none⟩ (.int .i64 y.day)).setCell ⟨(w.heap.size + 1), 3, none⟩ (.string y.f)).setCell ⟨(w.heap.size + 1), 4, none⟩ (.string y.t)).setCell ⟨(w.heap.size + 1), 5, none⟩ (.int .i64 y.dep)).setCell ⟨(w.heap.size + 1), 6, none⟩ (.int .i64 y.arr) = WW at *
          clear hWW n0 n1 n2 n3 n4 n5 n6 z0 z1 z2 z3 z4 z5 z6
          have c0 := (cell_of_row WW _ 0 _ _ (0, 0) hxx).trans (show _ = some _ from rfl)
          have c1 := (cell_of_row WW _ 1 _ _ (0, 0) hxx).trans (show _ = some _ from rfl)
          have c2 := (cell_of_row WW _ 2 _ _ (0, 0) hxx).trans (show _ = some _ from rfl)
          have c3 := (cell_of_row WW _ 3 _ _ (0, 0) hxx).trans (show _ = some _ from rfl)
          have c4 := (cell_of_row WW _ 4 _ _ (0, 0) hxx).trans (show _ = some _ from rfl)
          have c5 := (cell_of_row WW _ 5 _ _ (0, 0) hxx).trans (show _ = some _ from rfl)
          have c6 := (cell_of_row WW _ 6 _ _ (0, 0) hxx).trans (show _ = some _ from rfl)
          rw [HR3.out]
          refine bodyPost_ret (v := .tuple #[encS7 y, .int .i64 0]) ?_ rfl ⟨rfl, hbb⟩
          simp [results, Tryz.results16, go_sem, c0, c1, c2, c3, c4, c5, c6]
      · have hk' : k = L.length := by omega
        have HR3 := Lib.hid (HNO.out (by rw [← hk']; exact HK.out))
        have i2 : ¬ (k : Int) < (L.length : Int) := by omega
        have hS8 : SW w5 wr := Below.trans HS6.out (Below.mono hS HS6.out.size)
        have hx := (Below.block hS8 _ HLT5.out).trans HN.out
        have hwb := HB0.out.trans (Below.mono hS8 HB0.out.size)
        clear hS hS8 hk'
        go_upto_region 10 with fail
        have n0 := (cell_of_row _ _ 0 _ _ (0, 0) hx).trans (show _ = some _ from rfl)
        have n1 := (cell_of_row _ _ 1 _ _ (0, 0) hx).trans (show _ = some _ from rfl)
        have n2 := (cell_of_row _ _ 2 _ _ (0, 0) hx).trans (show _ = some _ from rfl)
        have n3 := (cell_of_row _ _ 3 _ _ (0, 0) hx).trans (show _ = some _ from rfl)
        have n4 := (cell_of_row _ _ 4 _ _ (0, 0) hx).trans (show _ = some _ from rfl)
        have n5 := (cell_of_row _ _ 5 _ _ (0, 0) hx).trans (show _ = some _ from rfl)
        have n6 := (cell_of_row _ _ 6 _ _ (0, 0) hx).trans (show _ = some _ from rfl)
        have z0 := frozen_of_row _ _ 0 _ _ hx
        have z1 := frozen_of_row _ _ 1 _ _ hx
        have z2 := frozen_of_row _ _ 2 _ _ hx
        have z3 := frozen_of_row _ _ 3 _ _ hx
        have z4 := frozen_of_row _ _ 4 _ _ hx
        have z5 := frozen_of_row _ _ 5 _ _ hx
        have z6 := frozen_of_row _ _ 6 _ _ hx
        have HX2 : Hid (∀ W, W = S7 wr (w.heap.size + 1) (.string noB) (.int .i64 0) (.int .i64 0) (.string noB) (.string noB) (.int .i64 0) (.int .i64 0) → W.heap[(w.heap.size + 1)]? = some (.cells #[.string noB, .int .i64 0, .int .i64 0, .string noB, .string noB, .int .i64 0, .int .i64 0] segT (0, 0)) ∧ Below w.heap.size w W ∧ But wr W (fun k => k = (w.heap.size + 1))) := Lib.hid (fun W h => by rw [h]; exact ⟨S7.heap hx _ _ _ _ _ _ _, hwb.trans ((S7.but _ _ _ _ _ _ _ _ _).below (hwb).size (fun k hk => by omega)), S7.but _ _ _ _ _ _ _ _ _⟩)
        clear hx hwb
        go_wp2
        obtain ⟨hxx, hbb, hbu⟩ := HX2.out _ rfl
        unfold S7 at hxx hbb hbu
        clear HX2
        generalize hWW : ((((((wr.setCell ⟨(w.heap.size + 1), 0, none⟩ (.string noB)).setCell ⟨(w.heap.size + 1), 1, none⟩ (.int .i64 0)).setCell ⟨(w.heap.size + 1), 2, none⟩ (.int .i64 0)).setCell ⟨(w.heap.size + 1), 3, none⟩ (.string noB)).setCell ⟨(w.heap.size + 1), 4, none⟩ (.string noB)).setCell ⟨(w.heap.size + 1), 5, none⟩ (.int .i64 0)).setCell ⟨(w.heap.size + 1), 6, none⟩ (.int .i64 0) = WW at *
        clear hWW n0 n1 n2 n3 n4 n5 n6 z0 z1 z2 z3 z4 z5 z6
        have c0 := (cell_of_row WW _ 0 _ _ (0, 0) hxx).trans (show _ = some _ from rfl)
        have c1 := (cell_of_row WW _ 1 _ _ (0, 0) hxx).trans (show _ = some _ from rfl)
        have c2 := (cell_of_row WW _ 2 _ _ (0, 0) hxx).trans (show _ = some _ from rfl)
        have c3 := (cell_of_row WW _ 3 _ _ (0, 0) hxx).trans (show _ = some _ from rfl)
        have c4 := (cell_of_row WW _ 4 _ _ (0, 0) hxx).trans (show _ = some _ from rfl)
        have c5 := (cell_of_row WW _ 5 _ _ (0, 0) hxx).trans (show _ = some _ from rfl)
        have c6 := (cell_of_row WW _ 6 _ _ (0, 0) hxx).trans (show _ = some _ from rfl)
        rw [HR3.out]
        refine bodyPost_ret (v := .tuple #[encS7 sgZ, .int .i64 14]) ?_ rfl ⟨rfl, hbb⟩
        simp [results, Tryz.results16, go_sem, c0, c1, c2, c3, c4, c5, c6, sgZ]

end Go.Proofs.YtdpcjafkahhecaaGreatDoor
