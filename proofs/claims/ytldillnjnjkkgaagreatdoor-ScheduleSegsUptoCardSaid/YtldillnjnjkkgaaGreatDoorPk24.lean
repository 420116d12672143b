/- Words and walks that the laws below ask: SgD, SchT, SchW, SchF2, SrtG, SchX. -/
import Derived.Test.YtldillnjnjkkgaaGreatDoorPk9
import Derived.Test.YtldillnjnjkkgaaGreatDoorPk10
import Derived.Test.YtldillnjnjkkgaaGreatDoorPk18
import Derived.Test.YtldillnjnjkkgaaGreatDoorPk19
import Derived.Test.YtldillnjnjkkgaaGreatDoorPk23
/- Walks of the reference's Legs and Segs. -/
namespace Go.Proofs.YtldillnjnjkkgaaGreatDoor
open Go.RowKit Go.Shelf
set_option linter.unusedSimpArgs false
set_option linter.unusedVariables false

theorem chF_nil {l : List Air} {f : FV} (h : chF l f = []) : cntB f.lg.length = true ∧ hdF f = [] ∧ lgsF l f.lg f.lg.length = [] ∧ timF l f = [] := by
  unfold chF at h
  by_cases hc : cntB f.lg.length = true
  · rw [if_pos hc] at h
    by_cases h0 : (hdF f ++ lgsF l f.lg f.lg.length).length = 0
    · rw [if_pos h0] at h
      have h1 := List.eq_nil_of_length_eq_zero h0
      exact ⟨hc, (List.append_eq_nil_iff.1 h1).1, (List.append_eq_nil_iff.1 h1).2, h⟩
    · rw [if_neg h0] at h
      rw [h] at h0
      exact absurd rfl h0
  · rw [if_neg hc] at h
    have := (List.append_eq_nil_iff.1 h).2
    simp [pick, okE] at this
theorem badD_all {l : List Air} {lg : List Lg} : ∀ {D : List Int}, badD l lg D = [] → ∀ d ∈ D, ordT true 0 (timL l lg d) = true
  | [], _, d, hd => by simp at hd
  | e :: r, h, d, hd => by
    unfold badD at h
    cases ho : ordT true 0 (timL l lg e)
    · rw [ho] at h; simp at h
    · rw [ho] at h
      rcases List.mem_cons.1 hd with rfl | hd
      · exact ho
      · exact badD_all (by simpa using h) d hd
theorem ordT_all : ∀ (L : List (Int × Int)) (first : Bool) (before : Int), ordT first before L = true → ∀ (k : Nat) (d a : Int), L[k]? = some (d, a) → d < a ∧ (k = 0 → first = false → before ≤ d) ∧ (∀ d' a', k ≠ 0 → L[k - 1]? = some (d', a') → a' ≤ d)
  | [], _, _, _, k, d, a, hk => by simp at hk
  | (d0, a0) :: r, first, before, h, k, d, a, hk => by
    unfold ordT at h
    by_cases h1 : a0 ≤ d0
    · rw [if_pos h1] at h; cases h
    rw [if_neg h1] at h
    by_cases h2 : first = false ∧ d0 < before
    · rw [if_pos h2] at h; cases h
    rw [if_neg h2] at h
    match k, hk with
    | 0, hk =>
      simp at hk
      obtain ⟨rfl, rfl⟩ := hk
      exact ⟨by omega, fun _ hf => by by_cases h3 : d0 < before; exact absurd ⟨hf, h3⟩ h2; omega, fun _ _ h0 => absurd rfl h0⟩
    | k + 1, hk =>
      have hk2 : r[k]? = some (d, a) := by simpa using hk
      obtain ⟨r1, r2, r3⟩ := ordT_all r false a0 h k d a hk2
      refine ⟨r1, fun h0 => by omega, fun d' a' _ hy => ?_⟩
      match k, r2, r3, hy with
      | 0, r2, r3, hy =>
        simp at hy
        obtain ⟨rfl, rfl⟩ := hy
        exact r2 rfl rfl
      | j + 1, r2, r3, hy => exact r3 d' a' (by omega) (by simpa using hy)
/-- on a day of a flight without violations the times of its legs are ordered -/
theorem chF_ord {l : List Air} {f : FV} (h : chF l f = []) {day : Int} (hd : Per.hasQ (f.pf, f.pt, f.pd) day = true) {k : Nat} {x : Lg} (hk : f.lg[k]? = some x) :
    depL l x day < arrL l x day ∧ (∀ y, k ≠ 0 → f.lg[k - 1]? = some y → arrL l y day ≤ depL l x day) := by
  have h1 := (chF_nil h).2.2.2
  have h2 := badD_all h1 day ((Per.daysQ_mem _ _).2 hd)
  have h3 := ordT_all _ _ _ h2 k (depL l x day) (arrL l x day) (by unfold timL; rw [List.getElem?_map, hk]; rfl)
  exact ⟨h3.1, fun y h0 hy => h3.2.2 (depL l y day) (arrL l y day) h0 (by unfold timL; rw [List.getElem?_map, hy]; rfl)⟩

end Go.Proofs.YtldillnjnjkkgaaGreatDoor

namespace Go.Proofs.YtldillnjnjkkgaaGreatDoor
open Go.RowKit Go.Shelf
set_option linter.unusedSimpArgs false
set_option linter.unusedVariables false

set_option maxRecDepth 100000 in
set_option maxHeartbeats 8000000 in
theorem rlegsT_any (p : PV) (f : FV) (day : Int) (w : World) (hl : p.l.length ≤ 40) (hL : AirL w p.A p.l) (hz : ∀ a ∈ p.l, OkZ a.off a.shs) (hG : LegL w (.slice f.A f.lg.length f.c) f.lg) (hn : f.lg.length ≤ 100)
    (hm : ∀ x ∈ f.lg, (-1000000 ≤ x.dep ∧ x.dep ≤ 1000000) ∧ -1000000 ≤ x.arr ∧ x.arr ≤ 1000000) (hd1 : -9223372036854775808 ≤ day) (hd2 : day ≤ 9223372036854775807) :
    Calls Tryz.prog 93 #[encP p, encFl f, .int .i64 day] w fun e w' => ∃ v, e = .returned (.tuple #[v, .int .i64 (legE f day)]) ∧ ROwn datT 8 encDt w.heap.size w' v (legF p.l f day) ∧ Below w.heap.size w w' := by
  have hb1 := bel_alloc w (.cells #[.slice p.A p.l.length p.ca, .slice p.D p.ds.length p.cd] placesT)
  have hb2 := bel_alloc (w.alloc (.cells #[.slice p.A p.l.length p.ca, .slice p.D p.ds.length p.cd] placesT)) (.cells #[.string f.car, .int .i64 f.num, .int .i64 f.pf, .int .i64 f.pt, .int .i64 f.pd, .slice f.A f.lg.length f.c] fliT)
  have hb0 := hb1.trans (hb2.mono hb1.size)
  have p0 := bel_cell hb2 ((cells_new w #[.slice p.A p.l.length p.ca, .slice p.D p.ds.length p.cd] placesT 0).trans (show _ = some (.slice p.A p.l.length p.ca) from rfl))
  have p1 := bel_cell hb2 ((cells_new w #[.slice p.A p.l.length p.ca, .slice p.D p.ds.length p.cd] placesT 1).trans (show _ = some (.slice p.D p.ds.length p.cd) from rfl))
  have q0 := (cells_new (w.alloc (.cells #[.slice p.A p.l.length p.ca, .slice p.D p.ds.length p.cd] placesT)) #[.string f.car, .int .i64 f.num, .int .i64 f.pf, .int .i64 f.pt, .int .i64 f.pd, .slice f.A f.lg.length f.c] fliT 0).trans (show _ = some (Value.string f.car) from rfl)
  have q1 := (cells_new (w.alloc (.cells #[.slice p.A p.l.length p.ca, .slice p.D p.ds.length p.cd] placesT)) #[.string f.car, .int .i64 f.num, .int .i64 f.pf, .int .i64 f.pt, .int .i64 f.pd, .slice f.A f.lg.length f.c] fliT 1).trans (show _ = some (Value.int .i64 f.num) from rfl)
  have q2 := (cells_new (w.alloc (.cells #[.slice p.A p.l.length p.ca, .slice p.D p.ds.length p.cd] placesT)) #[.string f.car, .int .i64 f.num, .int .i64 f.pf, .int .i64 f.pt, .int .i64 f.pd, .slice f.A f.lg.length f.c] fliT 2).trans (show _ = some (Value.int .i64 f.pf) from rfl)
  have q3 := (cells_new (w.alloc (.cells #[.slice p.A p.l.length p.ca, .slice p.D p.ds.length p.cd] placesT)) #[.string f.car, .int .i64 f.num, .int .i64 f.pf, .int .i64 f.pt, .int .i64 f.pd, .slice f.A f.lg.length f.c] fliT 3).trans (show _ = some (Value.int .i64 f.pt) from rfl)
  have q4 := (cells_new (w.alloc (.cells #[.slice p.A p.l.length p.ca, .slice p.D p.ds.length p.cd] placesT)) #[.string f.car, .int .i64 f.num, .int .i64 f.pf, .int .i64 f.pt, .int .i64 f.pd, .slice f.A f.lg.length f.c] fliT 4).trans (show _ = some (Value.int .i64 f.pd) from rfl)
  have q5 := (cells_new (w.alloc (.cells #[.slice p.A p.l.length p.ca, .slice p.D p.ds.length p.cd] placesT)) #[.string f.car, .int .i64 f.num, .int .i64 f.pf, .int .i64 f.pt, .int .i64 f.pd, .slice f.A f.lg.length f.c] fliT 5).trans (show _ = some (Value.slice f.A f.lg.length f.c) from rfl)
  rw [World.size_alloc] at q0 q1 q2 q3 q4 q5
  have KH := Lib.hid (fun w => Per.rhas_any f.pf f.pt f.pd day w hd1 hd2)
  cases hh : Per.hasQ (f.pf, f.pt, f.pd) day with
  | false =>
    have HE : Hid (legE f day = 12 ∧ legF p.l f day = []) := Lib.hid ⟨by rw [legE, hh]; rfl, by rw [legF, hh]; rfl⟩
    rw [hh] at KH
    clear hh hz hm
    go_enter Tryz.func93, Tryz.ntmps93
    go_wp2_with (go_at_call 87; refine (KH.out _).mono ?_; rintro e w1 ⟨rfl, hbh⟩)
    have h1 := hb0.trans (Below.mono hbh hb0.size)
    exact bodyPost_ret (results_tmp2 rfl _ _ _) rfl ⟨_, by rw [HE.out.1]; rfl, by rw [HE.out.2]; exact ROwn.nil h1.size, h1⟩
  | true =>
    have hdb := has_bd hh
    have HE : Hid (legE f day = 0 ∧ legF p.l f day = f.lg.map (datL p.l f day)) := Lib.hid ⟨by rw [legE, hh]; rfl, by rw [legF, hh]; rfl⟩
    rw [hh] at KH
    have KN := Lib.hid (fun w hA hG => rlegs7_any p f day w hl hA hz hG hn hm (by omega))
    have HL := Lib.hid (hL.more hb0)
    have HG := Lib.hid (hG.more hb0)
    clear hh hz hm hL hG hd1 hd2 hdb
    generalize f.lg.map (datL p.l f day) = DL at *
    go_enter Tryz.func93, Tryz.ntmps93
    go_wp2_with (first | (go_at_call 162; refine (KN.out _ (HL.out.more hbh) (HG.out.more hbh)).mono ?_; rintro e w2 ⟨v1, rfl, hv1, hbn⟩) | (go_at_call 87; refine (KH.out _).mono ?_; rintro e w1 ⟨rfl, hbh⟩; have r0 := bel_cell hbh p0; have r1 := bel_cell hbh p1; have s0 := bel_cell hbh q0; have s1 := bel_cell hbh q1; have s2 := bel_cell hbh q2; have s3 := bel_cell hbh q3; have s4 := bel_cell hbh q4; have s5 := bel_cell hbh q5))
    have h1 := hb0.trans (Below.mono hbh hb0.size)
    exact bodyPost_ret (results_tmp2 rfl _ _ _) rfl ⟨v1, by rw [HE.out.1]; rfl, by rw [HE.out.2]; exact ⟨hv1.own.mono h1.size, Nat.le_trans h1.size hv1.base⟩, h1.trans (Below.mono hbn h1.size)⟩

set_option maxRecDepth 100000 in
set_option maxHeartbeats 8000000 in
theorem rsegs_any (p : PV) (f : FV) (day : Int) (w : World) (hl : p.l.length ≤ 40) (hL : AirL w p.A p.l) (hz : ∀ a ∈ p.l, OkZ a.off a.shs) (hG : LegL w (.slice f.A f.lg.length f.c) f.lg) (hn : f.lg.length ≤ 100)
    (hm : ∀ x ∈ f.lg, (-1000000 ≤ x.dep ∧ x.dep ≤ 1000000) ∧ -1000000 ≤ x.arr ∧ x.arr ≤ 1000000) (hd1 : -9223372036854775808 ≤ day) (hd2 : day ≤ 9223372036854775807) :
    Calls Tryz.prog 90 #[encP p, encFl f, .int .i64 day] w fun e w' => ∃ v, e = .returned (.tuple #[v, .int .i64 (legE f day)]) ∧ ROwn segT 7 encSg w.heap.size w' v (segsL (legF p.l f day)) ∧ Below w.heap.size w w' := by
  have hb1 := bel_alloc w (.cells #[.slice p.A p.l.length p.ca, .slice p.D p.ds.length p.cd] placesT)
  have hb2 := bel_alloc (w.alloc (.cells #[.slice p.A p.l.length p.ca, .slice p.D p.ds.length p.cd] placesT)) (.cells #[.string f.car, .int .i64 f.num, .int .i64 f.pf, .int .i64 f.pt, .int .i64 f.pd, .slice f.A f.lg.length f.c] fliT)
  have hb0 := hb1.trans (hb2.mono hb1.size)
  have KL := Lib.hid (rlegsT_any p f day _ hl (hL.more hb0) hz (hG.more hb0) hn hm hd1 hd2)
  have HLn : Hid ((legF p.l f day).length ≤ 100) := Lib.hid (by unfold legF; split <;> simp <;> omega)
  generalize hLF : legF p.l f day = L at *
  generalize legE f day = e0 at *
  clear hL hz hG hm hd1 hd2 hLF
  go_enter Tryz.func90, Tryz.ntmps90
  go_upto_region 4 with (go_at_call 93; refine KL.out.mono ?_; rintro e w1 ⟨v1, rfl, hO1, hbl⟩; obtain ⟨A1, c1, rfl, hvc⟩ := id (hO1.rowL rtD.len))
  have hS0 : Below w.heap.size w w1 := hb0.trans (Below.mono hbl hb0.size)
  have HV := Lib.hid (hO1.rowL rtD.len)
  clear hO1 hvc KL hbl hb1 hb2
  go_loopg [10, 11] L.length (fun kx v10 vi wr => ∃ (v : Value) (i : Nat), v = v10 ∧ vi = .int .i64 i ∧ i + kx = L.length ∧ Hid (ROwn segT 7 encSg w1.heap.size wr v (segsI L i) ∧ SW w1 wr))
  case atStart => exact ⟨_, 0, rfl, rfl, by omega, Lib.hid ⟨ROwn.nil (Nat.le_refl _), Below.refl _ _⟩⟩
  case round =>
    obtain ⟨v, i, rfl, rfl, hix, HH⟩ := hrel
    have HIX := Lib.hid hix
    have hSr : SW w1 wr := HH.out.2
    by_cases hlt : i < L.length
    · clear hix
      obtain ⟨a, ha⟩ : ∃ a, L[i]? = some a := ⟨_, List.getElem?_eq_getElem hlt⟩
      have HSS := Lib.hid (segsI_succ ha)
      have i2 : (i : Int) < (L.length : Int) := by omega
      have hle : (segsI L i).length ≤ 10000 := by
        have h1 := segsI_le L i
        have h2 := HLn.out
        have h3 : i * L.length ≤ 100 * 100 := Nat.mul_le_mul (by omega) (by omega)
        omega
      have HLE2 := Lib.hid hle
      have KS : Hid (∀ (k : Nat) (y : Dt) W, SW w1 W → L[k]? = some y → Calls Tryz.prog 169 #[.slice A1 L.length c1, .int .i64 (i : Int), .int .i64 (k : Int)] W fun e w' => e = .returned (encS7 (sgOf a y)) ∧ Below W.heap.size W w') := Lib.hid (fun k y W h hk => rseg_any A1 c1 L i k a y W (by have := HLn.out; omega) (HV.out.more h) ha hk)
      have ib : i ≤ 100 := by have := HLn.out; omega
      have HLT := Lib.hid hlt
      have HNX : Hid (i + 1 + (L.length - (i + 1)) = L.length) := Lib.hid (by omega)
      have HI0 : Hid (ROwn segT 7 encSg w1.heap.size wr v (segsI L i ++ ((L.drop i).take (i - i)).map (sgOf a)) ∧ SW w1 wr) := Lib.hid ⟨by simpa using HH.out.1, hSr⟩
      have hi0 : i + (L.length - i) = L.length := by omega
      have HL100 : Hid (L.length ≤ 100) := HLn
      clear hle ha HH hSr
      go_wp2
      go_loopg [10, 12] (L.length - i) (fun kx v10 vk wr => ∃ (u : Value) (k : Nat), u = v10 ∧ vk = .int .i64 k ∧ k + kx = L.length ∧ i ≤ k ∧ Hid (ROwn segT 7 encSg w1.heap.size wr u (segsI L i ++ ((L.drop i).take (k - i)).map (sgOf a)) ∧ SW w1 wr))
      case atStart => exact ⟨_, i, rfl, rfl, hi0, Nat.le_refl _, HI0⟩
      case round =>
        obtain ⟨u, k, rfl, rfl, hkx, hik, HK⟩ := hrel
        clear HI0 hi0
        have HKX := Lib.hid hkx
        have HIK := Lib.hid hik
        have hSq : SW w1 wr := HK.out.2
        by_cases hlk : k < L.length
        · clear hkx
          obtain ⟨y, hy⟩ : ∃ y, L[k]? = some y := ⟨_, List.getElem?_eq_getElem hlk⟩
          have j2 : (k : Int) < (L.length : Int) := by omega
          have KSy := Lib.hid (KS.out k y wr hSq hy)
          have HTk : Hid (segsI L i ++ ((L.drop i).take (k + 1 - i)).map (sgOf a) = segsI L i ++ ((L.drop i).take (k - i)).map (sgOf a) ++ [sgOf a y]) := Lib.hid (by
            have e : (L.drop i)[k - i]? = some y := by rw [List.getElem?_drop, show i + (k - i) = k by omega]; exact hy
            rw [show k + 1 - i = (k - i) + 1 by omega, List.take_add_one, e, List.map_append, List.append_assoc]
            simp)
          have HLn2 : Hid ((segsI L i ++ ((L.drop i).take (k - i)).map (sgOf a)).length ≤ 100000000) := Lib.hid (by
            have h1 := HLE2.out
            have h2 := List.length_take_le (k - i) (L.drop i)
            have h3 := HL100.out
            rw [List.length_append, List.length_map]
            omega)
          have HKN : Hid (k + 1 + (L.length - (k + 1)) = L.length ∧ i ≤ k + 1 ∧ L.length - (k + 1) < L.length - k) := Lib.hid (by omega)
          have kb : k ≤ 100 := by have := HL100.out; omega
          have hO := HK.out.1
          generalize sgOf a y = s at *
          clear hy HK hik
          go_wp2_with (first
            | (go_at_call 169; refine KSy.out.mono ?_; rintro e w8 ⟨rfl, hb8⟩; have hO := hO.more hb8; have hSq : SW w1 w8 := Below.trans hSq (Below.mono hb8 hSq.size))
            | (at_builtin; refine wpList_rapp rtG rfl _ _ rfl hO rfl (bel_alloc _ _) _ s _ rfl (cs := #[.string s.car, .int .i64 s.num, .int .i64 s.day, .string s.f, .string s.t, .int .i64 s.dep, .int .i64 s.arr]) rfl (heap_alloc_new _ _) HLn2.out ?_; intro v9 w9 hO9 hC9))
          have HY : Hid (ROwn segT 7 encSg w1.heap.size w9 v9 (segsI L i ++ ((L.drop i).take (k + 1 - i)).map (sgOf a)) ∧ SW w1 w9) := Lib.hid ⟨by rw [HTk.out]; exact hO9, Below.trans hSq (hC9.below hO)⟩
          clear hO9 hC9 hO hSq
          go_roundg (L.length - (k + 1))
          case measure => have h1 := HKX.out; have h2 := HKN.out.2.2; omega
          case rel => exact ⟨_, k + 1, rfl, by go_num, HKN.out.1, HKN.out.2.1, HY⟩
        · have hk : k = L.length := by omega
          have HY : Hid (ROwn segT 7 encSg w1.heap.size wr u (segsI L (i + 1)) ∧ SW w1 wr) := Lib.hid ⟨by
            have h := HK.out.1
            rw [List.take_of_length_le (by rw [List.length_drop]; omega)] at h
            rw [HSS.out]
            exact h, hSq⟩
          have j2 : ¬ (k : Int) < (L.length : Int) := by omega
          clear HK hkx hk hSq hik
          go_wp2
          go_roundg (L.length - (i + 1))
          case measure => have h1 := HIX.out; have h2 : i < L.length := HLT.out; omega
          case rel => exact ⟨_, i + 1, rfl, by go_num, HNX.out, HY⟩
    · have hi : i = L.length := by omega
      have HZ : Hid (ROwn segT 7 encSg w.heap.size wr v (segsL L) ∧ Below w.heap.size w wr) := Lib.hid ⟨⟨by
        have h := HH.out.1.own
        rw [hi] at h
        exact h.mono hS0.size, Nat.le_trans hS0.size hSr.size⟩, hS0.trans (Below.mono hSr hS0.size)⟩
      have i2 : ¬ (i : Int) < (L.length : Int) := by omega
      clear HH hix hi
      go_wp2
      exact bodyPost_ret (results_tmp2 rfl _ _ _) rfl ⟨v, rfl, HZ.out.1, HZ.out.2⟩

end Go.Proofs.YtldillnjnjkkgaaGreatDoor

/- Walks of the reference's Day of a timetable and of its Same of legs. -/
namespace Go.Proofs.YtldillnjnjkkgaaGreatDoor
open Go.RowKit Go.Shelf
set_option linter.unusedSimpArgs false
set_option linter.unusedVariables false

theorem ROwn.lower {α : Type} {enc : α → List Value} {e : TypeId} {sz B B' : Nat} {w : World} {v : Value} {l : List α} (h : ROwn e sz enc B w v l) (hB : B' ≤ B) : ROwn e sz enc B' w v l := by
  refine ⟨⟨h.own.1, ?_⟩, Nat.le_trans hB h.base⟩
  rcases h.own.2 with h1 | ⟨g, cap, cur, h1, h2, h3⟩
  · exact .inl h1
  · exact .inr ⟨g, cap, cur, h1, Nat.le_trans hB h2, h3⟩
/-- the legs L inserted one after the other -/
structure InsR (w1 w : World) (v : Value) (L : List Dt) : Prop where
  own : ROwn datT 8 encDt w1.heap.size w v (insAll [] L)
  nil : insAll [] L = [] → v = .slice none 0 0
  sw : SW w1 w
theorem InsR.more {w1 w w' : World} {v : Value} {L : List Dt} (h : InsR w1 w v L) (hb : Below w.heap.size w w') : InsR w1 w' v L := ⟨h.own.more hb, h.nil, Below.trans h.sw (Below.mono hb h.sw.size)⟩
theorem insD_ne (L : List Dt) (x : Dt) : insD L x ≠ [] := fun h => by
  have := (insD_perm L x).length_eq
  rw [h] at this
  simp at this
set_option maxRecDepth 100000 in
set_option maxHeartbeats 8000000 in
/-- equal lists are found equal -/
theorem sameD8_any (u v : Value) (l : List Dt) (w : World) (hu : RowL 8 encDt w u l) (hv : RowL 8 encDt w v l) (hl : l.length ≤ 1000000) :
    Calls Tryz.prog 30 #[u, v] w fun e w' => e = .returned (.bool true) ∧ Below w.heap.size w w' := by
  obtain ⟨A, c, rfl, hA⟩ := id hu
  obtain ⟨A', c', rfl, hA'⟩ := id hv
  have HU := Lib.hid hu
  have HV := Lib.hid hv
  clear hA hA' hu hv
  have j0 : ((l.length : Int) != (l.length : Int)) = false := by simp
  go_enter Tryz.func30, Tryz.ntmps30
  go_wp2
  go_loopw [5] (fun vi wr => ∃ k : Nat, k ≤ l.length ∧ vi = .int .i64 k ∧ SW w wr) (fun vi _ => l.length - (intOf vi).toNat)
  case atStart => exact ⟨0, Nat.zero_le _, rfl, Below.refl _ _⟩
  case round =>
    obtain ⟨k, hk, rfl, hS⟩ := hrel
    by_cases hlt : k < l.length
    · obtain ⟨x, hx⟩ : ∃ x, l[k]? = some x := ⟨_, List.getElem?_eq_getElem hlt⟩
      have i2 : (k : Int) < (l.length : Int) := by omega
      obtain ⟨b, o, e1, hl1, hc⟩ := RowL.at8 (HU.out.more hS) hx
      cases e1
      obtain ⟨b', o', e2, hl2, hd⟩ := RowL.at8 (HV.out.more hS) hx
      cases e2
      have c0 := hc 0 _ rfl
      have c1 := hc 1 _ rfl
      have c2 := hc 2 _ rfl
      have c3 := hc 3 _ rfl
      have c4 := hc 4 _ rfl
      have c5 := hc 5 _ rfl
      have c6 := hc 6 _ rfl
      have c7 := hc 7 _ rfl
      rw [Nat.add_zero] at c0
      have f0 := SW.cell c0
      have f1 := SW.cell c1
      have f2 := SW.cell c2
      have f3 := SW.cell c3
      have f4 := SW.cell c4
      have f5 := SW.cell c5
      have f6 := SW.cell c6
      have f7 := SW.cell c7
      have d0 := hd 0 _ rfl
      have d1 := hd 1 _ rfl
      have d2 := hd 2 _ rfl
      have d3 := hd 3 _ rfl
      have d4 := hd 4 _ rfl
      have d5 := hd 5 _ rfl
      have d6 := hd 6 _ rfl
      have d7 := hd 7 _ rfl
      rw [Nat.add_zero] at d0
      have g0 := SW.cell d0
      have g1 := SW.cell d1
      have g2 := SW.cell d2
      have g3 := SW.cell d3
      have g4 := SW.cell d4
      have g5 := SW.cell d5
      have g6 := SW.cell d6
      have g7 := SW.cell d7
      have q0 : (x.car.toList == x.car.toList) = true := by simp
      have q1 : (x.num == x.num) = true := by simp
      have q2 : (x.day == x.day) = true := by simp
      have q3 : (x.f.toList == x.f.toList) = true := by simp
      have q4 : (x.t.toList == x.t.toList) = true := by simp
      have q5 : (x.dep == x.dep) = true := by simp
      have q6 : (x.arr == x.arr) = true := by simp
      have q7 : (x.eq.toList == x.eq.toList) = true := by simp
      clear hx hc hd hl1 hl2 c0 d0 c1 d1 c2 d2 c3 d3 c4 d4 c5 d5 c6 d6 c7 d7
      go_wp2
      have hNe : Nonempty (Wd (SW wr)) := ⟨⟨_, SW.drew _⟩⟩
      refine quietS (S := SW wr) (by kernel_rfl) (by kernel_rfl) (SW.drew _) ?_
      repeat (first | go_big_quiet_skip | (go_big_quiet_want; go_big_quiet_op; first | go_big_quiet_on | go_big_quiet_call ((fail))))
      refine wpQuiet_nil ?_
      rintro W ⟨⟨_, hW⟩, rfl⟩
      have hS7 : SW w W := Below.trans hS (Below.mono hW hS.size)
      clear f0 g0 f1 g1 f2 g2 f3 g3 f4 g4 f5 g5 f6 g6 f7 g7 hW
      go_wp2
      go_roundw
      case rel => exact ⟨k + 1, by omega, by go_num, hS7⟩
      case measure => simp [intOf]; omega
    · have i2 : ¬ (k : Int) < (l.length : Int) := by omega
      go_wp2
      go_ret
      exact ⟨rfl, hS⟩
set_option maxRecDepth 100000 in
set_option maxHeartbeats 2000000 in
theorem rday8_any (p : PV) (v : Value) (fs : List FV) (day : Int) (w : World) (op : fs ≠ [] → OkPl p) (ot : OkT fs) (hL : AirL w p.A p.l) (hv : TblL w v fs) (hn : fs.length ≤ 90) (h0 : -9223372036854775808 ≤ day) (h1 : day ≤ 9223372036854775807) :
    Calls Tryz.prog 32 #[encP p, v, .int .i64 day] w fun e w' => ∃ r, e = .returned r ∧ RowL 8 encDt w' r (insAll [] (dayF p.l fs day)) ∧ Below w.heap.size w w' := by
  obtain ⟨A, c, rfl, _⟩ := id hv.row
  have hb1 := bel_alloc w (.cells #[.slice p.A p.l.length p.ca, .slice p.D p.ds.length p.cd] placesT)
  have p0 := (cells_new w #[.slice p.A p.l.length p.ca, .slice p.D p.ds.length p.cd] placesT 0).trans (show _ = some (Value.slice p.A p.l.length p.ca) from rfl)
  have p1 := (cells_new w #[.slice p.A p.l.length p.ca, .slice p.D p.ds.length p.cd] placesT 1).trans (show _ = some (Value.slice p.D p.ds.length p.cd) from rfl)
  have HV := Lib.hid (hv.more hb1)
  have HL := Lib.hid (hL.more hb1)
  have HB1 := Lib.hid hb1
  have HOT := Lib.hid ot
  have KS := Lib.hid (fun (gm : fs ≠ []) (f : FV) W (g1 : AirL W p.A p.l) (g2 : LegL W (.slice f.A f.lg.length f.c) f.lg) (g3 : f.lg.length ≤ 100) (g4 : ∀ x ∈ f.lg, (-1000000 ≤ x.dep ∧ x.dep ≤ 1000000) ∧ -1000000 ≤ x.arr ∧ x.arr ≤ 1000000) => rlegsT_any p f day W (op gm).la g1 (op gm).oz g2 g3 g4 h0 h1)
  have HDL := Lib.hid (dayF_le p.l fs day ot.lg)
  clear hv ot hL hb1 op
  go_enter Tryz.func32, Tryz.ntmps32
  go_upto_region 1 with fail
  generalize hw1 : w.alloc (.cells #[.slice p.A p.l.length p.ca, .slice p.D p.ds.length p.cd] placesT) = w1 at *
  clear hw1
  have F0 := Lib.hid (bel_get p0)
  have F1 := Lib.hid (bel_get p1)
  clear p0 p1
  go_wp2
  go_loopw [7, 8] (fun s0 vi wr => ∃ (v : Value) (k : Nat), v = s0 ∧ k ≤ fs.length ∧ vi = .int .i64 k ∧ Hid (InsR w1 wr v (dayF p.l (fs.take k) day))) (fun _ vi _ => fs.length - (intOf vi).toNat)
  case atStart => exact ⟨_, 0, rfl, Nat.zero_le _, rfl, Lib.hid ⟨ROwn.nil (Nat.le_refl _), fun _ => rfl, Below.refl _ _⟩⟩
  case round =>
    obtain ⟨s0, k, rfl, hk, rfl, HK⟩ := hrel
    have hSr : SW w1 wr := HK.out.sw
    by_cases hlt : k < fs.length
    · obtain ⟨f, hf⟩ : ∃ f, fs[k]? = some f := ⟨_, List.getElem?_eq_getElem hlt⟩
      have hfm := List.mem_of_getElem? hf
      have hvk := HV.out.more hSr
      obtain ⟨b, o, e1, hbl, hc⟩ := RowL.at6 hvk.row hf
      cases e1
      have i2 : (k : Int) < (fs.length : Int) := by omega
      have d0 := hc 0 _ rfl
      have d1 := hc 1 _ rfl
      have d2 := hc 2 _ rfl
      have d3 := hc 3 _ rfl
      have d4 := hc 4 _ rfl
      have d5 := hc 5 _ rfl
      rw [Nat.add_zero] at d0
      have g0 := bel_get d0
      have g1 := bel_get d1
      have g2 := bel_get d2
      have g3 := bel_get d3
      have g4 := bel_get d4
      have g5 := bel_get d5
      have KL : Hid (∀ W, SW wr W → Calls Tryz.prog 93 #[encP p, encFl f, .int .i64 day] W fun e w' => ∃ A c, e = .returned (.tuple #[.slice A (legF p.l f day).length c, .int .i64 (legE f day)]) ∧ RowL 8 encDt w' (.slice A (legF p.l f day).length c) (legF p.l f day) ∧ SW wr w') := Lib.hid (fun W h => (KS.out (List.ne_nil_of_mem hfm) f W ((HL.out.more hSr).more h) ((hvk.legs f hfm).more h) (HOT.out.lg f hfm) (HOT.out.hm f hfm)).mono (by
        rintro e w' ⟨v, rfl, hO, hb⟩
        have hr := hO.rowL rtD.len
        obtain ⟨A, c, rfl, _⟩ := id hr
        exact ⟨A, c, rfl, hr, Below.trans h (Below.mono hb h.size)⟩))
      have z0 : ∀ W, SW wr W → W.cell? ⟨w.heap.size, 0, none⟩ = some (.slice p.A p.l.length p.ca) := fun W h => F0.out W (Below.trans hSr (Below.mono h hSr.size))
      have z1 : ∀ W, SW wr W → W.cell? ⟨w.heap.size, 1, none⟩ = some (.slice p.D p.ds.length p.cd) := fun W h => F1.out W (Below.trans hSr (Below.mono h hSr.size))
      have HT := Lib.hid (dayF_take p.l fs day hf)
      have hMl : (legF p.l f day).length ≤ 100 := legF_le p.l f day (HOT.out.lg f hfm)
      have hDl : (dayF p.l (fs.take k) day).length ≤ 100 * k := HDL.out k
      have HLN : Hid ((dayF p.l (fs.take k) day).length + 100 ≤ 10000) := Lib.hid (by omega)
      generalize legF p.l f day = M at *
      generalize legE f day = e0 at *
      clear hc d0 d1 d2 d3 d4 d5 hf hfm hbl hvk hDl
      go_upto_region 5 with fail
      have hS : (SW wr) _ := SW.drew _
      refine wp_region_held_drew (S := SW wr) (by kernel_rfl) hS (fun _ => ?_)
      refine wpAnyH_take (i := 0) (v := ?vD0) rfl (by kernel_rfl) (by kernel_rfl) (by kernel_rfl) (fun _ _ _ h => h) (Or.inl ⟨by rfl, ?hyD0⟩) hS ?restD0
      case hyD0 =>
        intro w hSw
        have k0 := z0 w hSw; have k1 := z1 w hSw; have k2 := g0 w hSw; have k3 := g1 w hSw; have k4 := g2 w hSw; have k5 := g3 w hSw; have k6 := g4 w hSw; have k7 := g5 w hSw
        first | (go_simp; done) | (go_simp; with_reducible rfl)
      try simp only [Act.put, List.setIfInBounds_toArray, List.set_cons_zero, List.set_cons_succ]
      refine wpAnyH_take (i := 1) (v := ?vD1) rfl (by kernel_rfl) (by kernel_rfl) (by kernel_rfl) (fun _ _ _ h => h) (Or.inl ⟨by rfl, ?hyD1⟩) hS ?restD1
      case hyD1 =>
        intro w hSw
        first | (go_simp; done) | (go_simp; with_reducible rfl)
      try simp only [Act.put, List.setIfInBounds_toArray, List.set_cons_zero, List.set_cons_succ]
      refine wpAnyH_take (i := 2) (v := ?vD2) rfl (by kernel_rfl) (by kernel_rfl) (by kernel_rfl) (fun _ _ _ h => h) (Or.inl ⟨by rfl, ?hyD2⟩) hS ?restD2
      case hyD2 =>
        intro w hSw
        first | (go_simp; done) | (go_simp; with_reducible rfl)
      try simp only [Act.put, List.setIfInBounds_toArray, List.set_cons_zero, List.set_cons_succ]
      refine wpAnyH_take (i := 3) (v := ?vD3) rfl (by kernel_rfl) (by kernel_rfl) (by kernel_rfl) (fun _ _ _ h => h) (Or.inl ⟨by rfl, ?hyD3⟩) hS ?restD3
      case hyD3 =>
        intro w hSw
        have k0 := z0 w hSw; have k1 := z1 w hSw; have k2 := g0 w hSw; have k3 := g1 w hSw; have k4 := g2 w hSw; have k5 := g3 w hSw; have k6 := g4 w hSw; have k7 := g5 w hSw
        first | (go_simp; done) | (go_simp; with_reducible rfl)
      try simp only [Act.put, List.setIfInBounds_toArray, List.set_cons_zero, List.set_cons_succ]
      refine wpAnyH_take (i := 4) (v := ?vD4) rfl (by kernel_rfl) (by kernel_rfl) (by kernel_rfl) (fun _ _ _ h => h) (Or.inl ⟨by rfl, ?hyD4⟩) hS ?restD4
      case hyD4 =>
        intro w hSw
        have k0 := z0 w hSw; have k1 := z1 w hSw; have k2 := g0 w hSw; have k3 := g1 w hSw; have k4 := g2 w hSw; have k5 := g3 w hSw; have k6 := g4 w hSw; have k7 := g5 w hSw
        first | (go_simp; done) | (go_simp; with_reducible rfl)
      try simp only [Act.put, List.setIfInBounds_toArray, List.set_cons_zero, List.set_cons_succ]
      refine wpAnyH_take (i := 5) (v := ?vD5) rfl (by kernel_rfl) (by kernel_rfl) (by kernel_rfl) (fun _ _ _ h => h) (Or.inl ⟨by rfl, ?hyD5⟩) hS ?restD5
      case hyD5 =>
        intro w hSw
        first | (go_simp; done) | (go_simp; with_reducible rfl)
      try simp only [Act.put, List.setIfInBounds_toArray, List.set_cons_zero, List.set_cons_succ]
      refine wpAnyH_ready (rs := [6]) (by kernel_rfl) (by simp) ?_
      refine AllReadyH.cons rfl (fun K hK => ?_) AllReadyH.nil
      go_simp
      go_wp2_with ((go_at_call 93; refine (KL.out _ hS).mono ?_; rintro e w7 ⟨A7, c7, rfl, hR7, hS⟩))
      refine hK.out _ _ hS (fun _ => ?_)
      clear hK K
      refine wpAnyH_take (i := 7) (v := ?vD7) rfl (by kernel_rfl) (by kernel_rfl) (by kernel_rfl) (fun _ _ _ h => h) (Or.inl ⟨by rfl, ?hyD7⟩) hS ?restD7
      case hyD7 =>
        intro w hSw
        first | (go_simp; done) | (go_simp; with_reducible rfl)
      try simp only [Act.put, List.setIfInBounds_toArray, List.set_cons_zero, List.set_cons_succ]
      refine wpAnyH_take (i := 8) (v := ?vD8) rfl (by kernel_rfl) (by kernel_rfl) (by kernel_rfl) (fun _ _ _ h => h) (Or.inl ⟨by rfl, ?hyD8⟩) hS ?restD8
      case hyD8 =>
        intro w hSw
        first | (go_simp; done) | (go_simp; with_reducible rfl)
      try simp only [Act.put, List.setIfInBounds_toArray, List.set_cons_zero, List.set_cons_succ]
      refine wpAnyH_take (i := 9) (v := ?vD9) rfl (by kernel_rfl) (by kernel_rfl) (by kernel_rfl) (fun _ _ _ h => h) (Or.inl ⟨by rfl, ?hyD9⟩) hS ?restD9
      case hyD9 =>
        intro w hSw
        first | (go_simp; done) | (go_simp; with_reducible rfl)
      try simp only [Act.put, List.setIfInBounds_toArray, List.set_cons_zero, List.set_cons_succ]
      refine wpAnyH_take (i := 10) (v := ?vD10) rfl (by kernel_rfl) (by kernel_rfl) (by kernel_rfl) (fun _ _ _ h => h) (Or.inl ⟨by rfl, ?hyD10⟩) hS ?restD10
      case hyD10 =>
        intro w hSw
        first | (go_simp; done) | (go_simp; with_reducible rfl)
      try simp only [Act.put, List.setIfInBounds_toArray, List.set_cons_zero, List.set_cons_succ]
      refine wpAnyH_take (i := 11) (v := ?vD11) rfl (by kernel_rfl) (by kernel_rfl) (by kernel_rfl) (fun _ _ _ h => h) (Or.inl ⟨by rfl, ?hyD11⟩) hS ?restD11
      case hyD11 =>
        intro w hSw
        first | (go_simp; done) | (go_simp; with_reducible rfl)
      try simp only [Act.put, List.setIfInBounds_toArray, List.set_cons_zero, List.set_cons_succ]
      refine wpAnyH_done (by kernel_rfl) ?_ _
      simp only [List.getElem_toArray, List.getElem_cons_succ, List.getElem_cons_zero, List.set_cons_zero, List.set_cons_succ]
      try simp only [List.setIfInBounds_toArray, List.set_cons_zero, List.set_cons_succ]
      have HR7 := Lib.hid hR7
      have HI7 : Hid (InsR w1 w7 s0 (dayF p.l (fs.take k) day ++ M.take 0)) := Lib.hid (by rw [List.take_zero, List.append_nil]; exact HK.out.more hS)
      clear hR7 HK g0 g1 g2 g3 g4 g5 z0 z1 KL
      generalize hDD : dayF p.l (fs.take k) day = DD at *
      clear hDD
      go_wp2
      go_loopw [7, 11] (fun s1 vj wi => ∃ (v : Value) (j : Nat), v = s1 ∧ j ≤ M.length ∧ vj = .int .i64 j ∧ Hid (InsR w1 wi v (DD ++ M.take j)) ∧ SW w7 wi) (fun _ vj _ => M.length - (intOf vj).toNat)
      case atStart => exact ⟨_, 0, rfl, Nat.zero_le _, rfl, HI7, Below.refl _ _⟩
      case round =>
        obtain ⟨s1, j, rfl, hj, rfl, HJ, hSi⟩ := hrel
        by_cases hlj : j < M.length
        · obtain ⟨x, hx⟩ : ∃ x, M[j]? = some x := ⟨_, List.getElem?_eq_getElem hlj⟩
          have j2 : (j : Int) < (M.length : Int) := by omega
          obtain ⟨bx, ox, e2, hbx, hcx⟩ := RowL.at8 (HR7.out.more hSi) hx
          cases e2
          have x0 := hcx 0 _ rfl
          rw [Nat.add_zero] at x0
          have x1 := hcx 1 _ rfl
          have x2 := hcx 2 _ rfl
          have x3 := hcx 3 _ rfl
          have x4 := hcx 4 _ rfl
          have x5 := hcx 5 _ rfl
          have x6 := hcx 6 _ rfl
          have x7 := hcx 7 _ rfl
          have HN : Hid (insAll [] (DD ++ M.take (j + 1)) = insD (insAll [] (DD ++ M.take j)) x) := Lib.hid (by rw [List.take_add_one, hx, ← List.append_assoc, insAll_app]; rfl)
          have hln : (insAll [] (DD ++ M.take j)).length ≤ 10000 := by
            rw [insAll_len]
            have := HLN.out
            have h2 := List.length_take_le j M
            rw [List.length_append]
            simp only [List.length_nil]
            omega
          have KI := Lib.hid (rinsert_any s1 (insAll [] (DD ++ M.take j)) x w1.heap.size wr HJ.out.own HJ.out.nil hln)
          have HJS : Hid (SW w1 wr) := Lib.hid HJ.out.sw
          clear hcx hbx hx hln HJ
          go_wp2_with (go_at_call 94; refine KI.out.mono ?_; rintro e w9 ⟨r9, rfl, hO9, hb9⟩)
          go_roundw
          case rel => exact ⟨_, j + 1, rfl, by omega, by go_num, Lib.hid ⟨by rw [HN.out]; exact hO9.lower HJS.out.size, by rw [HN.out]; exact fun h => absurd h (insD_ne _ _), HJS.out.trans (hb9.mono HJS.out.size)⟩, Below.trans hSi (Below.mono hb9 hSi.size)⟩
          case measure => simp [intOf]; omega
        · have j2 : ¬ (j : Int) < (M.length : Int) := by omega
          have HX : Hid (InsR w1 wr s1 (dayF p.l (fs.take (k + 1)) day)) := Lib.hid (by
            rw [HT.out]
            have := HJ.out
            rwa [List.take_of_length_le (by omega)] at this)
          clear HJ
          go_wp2
          go_roundw
          case rel => exact ⟨_, k + 1, rfl, by omega, by go_num, HX⟩
          case measure => simp [intOf]; omega
    · have hk2 : k = fs.length := by omega
      have i2 : ¬ (k : Int) < (fs.length : Int) := by omega
      have HX : Hid (InsR w1 wr s0 (dayF p.l fs day)) := Lib.hid (by
        have := HK.out
        rwa [hk2, List.take_length] at this)
      clear HK hk2
      go_wp2
      go_ret
      exact ⟨_, rfl, HX.out.own.rowL rtD.len, HB1.out.trans (HX.out.sw.mono HB1.out.size)⟩

end Go.Proofs.YtldillnjnjkkgaaGreatDoor

/- Plain words on timetables without violations: who is operated, the order of the legs of a day, segments. -/
namespace Go.Proofs.YtldillnjnjkkgaaGreatDoor
open Go.RowKit Go.Shelf
set_option linter.unusedSimpArgs false
set_option linter.unusedVariables false

/-- places and a timetable that are small and without violations -/
structure ValT (p : PV) (fs : List FV) : Prop where
  sm : SmallT p fs
  hc : chkP p = []
  sch : schF p.l fs fs.length = []
theorem ValT.at {p : PV} {fs : List FV} (h : ValT p fs) {k : Nat} {f : FV} (hk : fs[k]? = some f) : chF p.l f = [] ∧ twcB (fs.take k) f = false := by
  have h1 := h.sch
  unfold schF at h1
  rw [List.flatMap_eq_nil_iff] at h1
  have hlt := (List.getElem?_eq_some_iff.1 hk).1
  have h2 := h1 k (List.mem_range.2 hlt)
  rw [hk] at h2
  obtain ⟨h3, h4⟩ := List.append_eq_nil_iff.1 h2
  refine ⟨?_, ?_⟩
  · unfold preF at h3
    exact List.map_eq_nil_iff.1 h3
  · cases hb : twcB (fs.take k) f with
    | false => rfl
    | true =>
      rw [hb] at h4
      simp [wh, pick, okE] at h4
theorem ValT.mem {p : PV} {fs : List FV} (h : ValT p fs) {f : FV} (hf : f ∈ fs) : chF p.l f = [] := by
  obtain ⟨k, hk⟩ := List.getElem?_of_mem hf
  exact (h.at hk).1
theorem ValT.okT {p : PV} {fs : List FV} (h : ValT p fs) : OkT fs where
  len := by have := h.sm.1; omega
  lg f hf := by have := (h.sm.2 f hf).1; omega
  hm f hf x hx := lgs_times (chF_nil (h.mem hf)).2.2.1 hx
theorem ValT.okPl {p : PV} {fs : List FV} (h : ValT p fs) (hne : fs ≠ []) : OkPl p := okPl_of h.sm h.hc hne
/-- who is operated under its name on a day is the only one -/
theorem ValT.uniq {p : PV} {fs : List FV} (h : ValT p fs) {i j : Nat} {f g : FV} {day : Int} (hi : fs[i]? = some f) (hj : fs[j]? = some g) (hij : i < j) (hf : Per.hasQ (f.pf, f.pt, f.pd) day = true) (hg : Per.hasQ (g.pf, g.pt, g.pd) day = true) : ¬ (f.car = g.car ∧ f.num = g.num) := by
  rintro ⟨e1, e2⟩
  have h1 := (h.at hj).2
  have : twcB (fs.take j) g = true := by
    unfold twcB tkn
    rw [List.any_eq_true]
    refine ⟨day, (Per.daysQ_mem _ _).2 hg, ?_⟩
    rw [List.any_eq_true]
    refine ⟨f, ?_, by simp [e1, e2, hf]⟩
    refine List.mem_of_getElem? (i := i) ?_
    rw [List.getElem?_take_of_lt hij]
    exact hi
  rw [this] at h1
  cases h1
theorem ValT.on {p : PV} {fs : List FV} (h : ValT p fs) {k : Nat} {f : FV} {day : Int} (hk : fs[k]? = some f) (hf : Per.hasQ (f.pf, f.pt, f.pd) day = true) : onF fs f.car f.num day = some f := by
  refine onF_some hk ?_ (fun j g hj hg => ?_)
  · unfold onB; rw [hf]; simp
  · cases hb : onB f.car f.num day g with
    | false => rfl
    | true =>
      exfalso
      unfold onB at hb
      simp only [Bool.and_eq_true] at hb
      obtain ⟨b1, b2, b3⟩ := hb
      rw [car_eq, decide_eq_true_eq] at b1
      exact h.uniq hg hk hj b3 hf ⟨b1, by simpa using b2⟩
theorem onF_at {fs : List FV} {car : ByteArray} {num day : Int} {f : FV} (h : onF fs car num day = some f) : f ∈ fs ∧ f.car = car ∧ f.num = num ∧ Per.hasQ (f.pf, f.pt, f.pd) day = true := by
  have h1 := List.find?_some h
  unfold onB at h1
  simp only [Bool.and_eq_true] at h1
  obtain ⟨b1, b2, b3⟩ := h1
  rw [car_eq, decide_eq_true_eq] at b1
  exact ⟨List.mem_of_find?_eq_some h, b1, by simpa using b2, b3⟩

/-! ### the legs of a day -/
theorem legF_mem {l : List Air} {f : FV} {day : Int} {d : Dt} (h : d ∈ legF l f day) : Per.hasQ (f.pf, f.pt, f.pd) day = true ∧ d.car = f.car ∧ d.num = f.num ∧ d.day = day := by
  unfold legF at h
  split at h
  · rename_i hq
    obtain ⟨x, _, rfl⟩ := List.mem_map.1 h
    exact ⟨hq, rfl, rfl, rfl⟩
  · cases h
theorem dtLt_dep {x y : Dt} (h : x.dep < y.dep) : dtLt x y = true := (dtLt_iff x y).2 (.inl h)
theorem dtLt_key {x y : Dt} (h : ¬ (x.car = y.car ∧ x.num = y.num)) : dtLt x y = true ∨ dtLt y x = true := by
  rcases Int.lt_trichotomy x.dep y.dep with g | g | g
  · exact .inl (dtLt_dep g)
  · rcases lessT_tri x.car y.car with k | k | k
    · exact .inl ((dtLt_iff _ _).2 (.inr ⟨g, .inl k⟩))
    · rcases Int.lt_trichotomy x.num y.num with q | q | q
      · exact .inl ((dtLt_iff _ _).2 (.inr ⟨g, .inr ⟨k, q⟩⟩))
      · exact absurd ⟨k, q⟩ h
      · exact .inr ((dtLt_iff _ _).2 (.inr ⟨g.symm, .inr ⟨k.symm, q⟩⟩))
    · exact .inr ((dtLt_iff _ _).2 (.inr ⟨g.symm, .inl k⟩))
  · exact .inr (dtLt_dep g)
theorem leg_asc {l : List Air} {f : FV} (h : chF l f = []) {day : Int} (hd : Per.hasQ (f.pf, f.pt, f.pd) day = true) : ∀ (j i : Nat) (x y : Lg), i < j → f.lg[i]? = some x → f.lg[j]? = some y → depL l x day < depL l y day
  | 0, i, x, y, hij, _, _ => by omega
  | j + 1, i, x, y, hij, hx, hy => by
    obtain ⟨z, hz⟩ : ∃ z, f.lg[j]? = some z := ⟨_, List.getElem?_eq_getElem (by have := (List.getElem?_eq_some_iff.1 hy).1; omega)⟩
    have h1 := (chF_ord h hd hy).2 z (by omega) hz
    have h2 := (chF_ord h hd hz).1
    by_cases e : i = j
    · subst e; rw [hx] at hz; cases hz; omega
    · have := leg_asc h hd j i x z (by omega) hx hz
      omega
theorem ValT.keys {p : PV} {fs : List FV} (h : ValT p fs) (day : Int) : KeysD (dayF p.l fs day) := by
  unfold KeysD dayF
  rw [List.pairwise_flatMap]
  refine ⟨fun f hf => ?_, ?_⟩
  · unfold legF
    split
    · rename_i hq
      rw [List.pairwise_map, List.pairwise_iff_getElem]
      intro i j hi hj hij
      exact .inl (dtLt_dep (leg_asc (h.mem hf) hq j i _ _ hij (List.getElem?_eq_getElem hi) (List.getElem?_eq_getElem hj)))
    · exact List.Pairwise.nil
  · rw [List.pairwise_iff_getElem]
    intro i j hi hj hij x hx y hy
    obtain ⟨q1, c1, n1, _⟩ := legF_mem hx
    obtain ⟨q2, c2, n2, _⟩ := legF_mem hy
    have := h.uniq (List.getElem?_eq_getElem hi) (List.getElem?_eq_getElem hj) hij q1 q2
    exact dtLt_key (by rw [c1, c2, n1, n2]; exact this)
theorem ValT.dayLen {p : PV} {fs : List FV} (h : ValT p fs) (day : Int) : (dayF p.l fs day).length ≤ 160 := by
  have h1 : ∀ (L : List FV), (∀ f ∈ L, f.lg.length ≤ 12) → (dayF p.l L day).length ≤ 12 * L.length := by
    intro L
    induction L with
    | nil => intro _; simp [dayF]
    | cons f r ih =>
      intro hL
      have h2 := ih (fun g hg => hL g (List.mem_cons_of_mem _ hg))
      have h3 : (legF p.l f day).length ≤ 12 := by
        have := hL f List.mem_cons_self
        unfold legF; split <;> simp <;> omega
      have h4 : dayF p.l (f :: r) day = legF p.l f day ++ dayF p.l r day := by simp [dayF]
      rw [h4, List.length_append, List.length_cons]
      omega
  have h2 := h1 fs (fun f hf => (h.sm.2 f hf).1)
  have := h.sm.1
  omega
theorem ValT.sorted {p : PV} {fs : List FV} (h : ValT p fs) (day : Int) {L' : List Dt} (hp : L'.Perm (dayF p.l fs day)) (hs : SortedD L') : L' = insAll [] (dayF p.l fs day) :=
  sorted_unique (h.keys day) hp (by have := insAll_perm (dayF p.l fs day) []; simpa using this) hs (insAll_sorted _ _ (sorted_one (by simp)))

/-! ### segments -/
theorem segsL_mem {L : List Dt} {s : Sg} (h : s ∈ segsL L) : ∃ (i k : Nat) (x y : Dt), L[i]? = some x ∧ L[k]? = some y ∧ i ≤ k ∧ s = sgOf x y := by
  unfold segsL segsI at h
  obtain ⟨i, hi, h2⟩ := List.mem_flatMap.1 h
  obtain ⟨x, hx⟩ : ∃ x, L[i]? = some x := ⟨_, List.getElem?_eq_getElem (List.mem_range.1 hi)⟩
  rw [hx] at h2
  obtain ⟨y, hy, rfl⟩ := List.mem_map.1 h2
  obtain ⟨q, hq⟩ := List.getElem?_of_mem hy
  rw [List.getElem?_drop] at hq
  exact ⟨i, i + q, x, y, hx, hq, by omega, rfl⟩
theorem segsI_mem {L : List Dt} {s : Sg} (h : s ∈ segsL L) : ∃ x ∈ L, ∃ y ∈ L, s = sgOf x y := by
  obtain ⟨i, k, x, y, h1, h2, _, h3⟩ := segsL_mem h
  exact ⟨x, List.mem_of_getElem? h1, y, List.mem_of_getElem? h2, h3⟩
theorem ValT.seg0 {p : PV} {fs : List FV} (h : ValT p fs) : operB p.l fs sgZ = false := by
  have : onF fs noB 0 0 = none := by
    cases hb : onF fs noB 0 0 with
    | none => rfl
    | some f =>
      obtain ⟨h1, h2, h3, _⟩ := onF_at hb
      have h4 := (chF_nil (h.mem h1)).2.1
      unfold hdF at h4
      have h5 := (List.append_eq_nil_iff.1 (List.append_eq_nil_iff.1 h4).2).1
      have h6 : numB f.num = false := by rw [h3]; decide
      rw [h6] at h5
      simp [pick, okE] at h5
  unfold operB
  show ((segF p.l fs noB 0 0 noB noB).1 == 0 && _) = false
  rw [segF_none this]
  rfl
/-- a segment that is found is operated -/
theorem segF_oper {L : List Air} {fs : List FV} {car : ByteArray} {num day : Int} {fr tt : ByteArray} (h : (segF L fs car num day fr tt).1 = 0) : operB L fs (segF L fs car num day fr tt).2 = true := by
  cases ho : onF fs car num day with
  | none => rw [segF_none ho] at h; cases h
  | some f =>
    cases hs : (segsL (legF L f day)).find? (ftB fr tt) with
    | none => rw [segF_miss ho hs] at h; cases h
    | some s =>
      rw [segF_hit ho hs]
      obtain ⟨x, hx, y, hy, e⟩ := segsI_mem (List.mem_of_find?_eq_some hs)
      obtain ⟨_, c1, n1, d1⟩ := legF_mem hx
      obtain ⟨_, oc, on', _⟩ := onF_at ho
      have hft := List.find?_some hs
      unfold ftB at hft
      simp only [Bool.and_eq_true, car_eq, decide_eq_true_eq] at hft
      have e1 : s.car = car := by rw [e]; exact c1.trans oc
      have e2 : s.num = num := by rw [e]; exact n1.trans on'
      have e3 : s.day = day := by rw [e]; exact d1
      unfold operB
      rw [e1, e2, e3, hft.1, hft.2, segF_hit ho hs]
      simp [eqSg]

end Go.Proofs.YtldillnjnjkkgaaGreatDoor

/- Walk of the reference's Seg. -/
namespace Go.Proofs.YtldillnjnjkkgaaGreatDoor
open Go.RowKit Go.Shelf
set_option linter.unusedSimpArgs false
set_option linter.unusedVariables false

set_option maxRecDepth 100000 in
set_option maxHeartbeats 8000000 in
theorem rseg8_any (p : PV) (v : Value) (fs : List FV) (car : ByteArray) (num day : Int) (fr tt : ByteArray) (w : World) (op : fs ≠ [] → OkPl p) (ot : OkT fs) (hL : AirL w p.A p.l) (hv : TblL w v fs) (h0 : -9223372036854775808 ≤ day) (h1 : day ≤ 9223372036854775807) :
    Calls Tryz.prog 29 #[encP p, v, .string car, .int .i64 num, .int .i64 day, .string fr, .string tt] w fun e w' => e = .returned (.tuple #[encS7 (segF p.l fs car num day fr tt).2, .int .i64 (segF p.l fs car num day fr tt).1]) ∧ Below w.heap.size w w' := by
  have hb1 := bel_alloc (w) (.cells #[.slice p.A p.l.length p.ca, .slice p.D p.ds.length p.cd] placesT)
  have hb2 := bel_alloc ((w).alloc (.cells #[.slice p.A p.l.length p.ca, .slice p.D p.ds.length p.cd] placesT)) (.cells #[.string noB, .int .i64 0, .int .i64 0, .string noB, .string noB, .int .i64 0, .int .i64 0] segT)
  have hs2 := hb2
  have hs1 := hb1.trans (hs2.mono hb1.size)
  have p0 := bel_cell hs2 ((cells_new w #[.slice p.A p.l.length p.ca, .slice p.D p.ds.length p.cd] placesT 0).trans (show _ = some (Value.slice p.A p.l.length p.ca) from rfl))
  have p1 := bel_cell hs2 ((cells_new w #[.slice p.A p.l.length p.ca, .slice p.D p.ds.length p.cd] placesT 1).trans (show _ = some (Value.slice p.D p.ds.length p.cd) from rfl))
  have hN := heap_alloc_new ((w).alloc (.cells #[.slice p.A p.l.length p.ca, .slice p.D p.ds.length p.cd] placesT)) (.cells #[.string noB, .int .i64 0, .int .i64 0, .string noB, .string noB, .int .i64 0, .int .i64 0] segT)
  simp only [World.size_alloc] at hN
  have HV := Lib.hid (hv.more hs1)
  have HL := Lib.hid (hL.more hs1)
  have HB0 := Lib.hid hs1
  have HOT := Lib.hid ot
  have HOP := Lib.hid op
  have KO := Lib.hid (fun W (h : TblL W v fs) => ron_x v fs car num day W h ot.len (fun f hf => Nat.le_trans (ot.lg f hf) (by omega)) h0 h1)
  have KS := Lib.hid (fun (gm : fs ≠ []) (f : FV) W (g1 : AirL W p.A p.l) (g2 : LegL W (.slice f.A f.lg.length f.c) f.lg) (g3 : f.lg.length ≤ 100) (g4 : ∀ x ∈ f.lg, (-1000000 ≤ x.dep ∧ x.dep ≤ 1000000) ∧ -1000000 ≤ x.arr ∧ x.arr ≤ 1000000) => rsegs_any p f day W (op gm).la g1 (op gm).oz g2 g3 g4 h0 h1)
  clear hv hL ot op hb1 hb2
  go_enter Tryz.func29, Tryz.ntmps29
  go_upto_region 1 with fail
  generalize hw5 : (((w).alloc (.cells #[.slice p.A p.l.length p.ca, .slice p.D p.ds.length p.cd] placesT)).alloc (.cells #[.string noB, .int .i64 0, .int .i64 0, .string noB, .string noB, .int .i64 0, .int .i64 0] segT)) = w5 at *
  clear hw5
  have f0 := bel_get p0
  have f1 := bel_get p1
  have HN := Lib.hid hN
  have HLT5 : Hid ((w.heap.size + 1) < w5.heap.size) := Lib.hid (lt_of_cell2 hN)
  clear p0 p1 hN hs1
  cases ho : onF fs car num day with
  | none =>
    have HX := Lib.hid ho
    rw [ho] at KO
    change Hid (∀ W, TblL W v fs → Calls Tryz.prog 27 _ W (OnX fliZ false W)) at KO
    clear ho
    go_upto_region 2 with (go_at_call 27; refine (KO.out _ HV.out).mono ?_; rintro e w3 ⟨X1, A3, c3, rfl, hX1, hL1, hb3⟩; have hst1 := store_fli hX1 w3; have hsz1 : X1.size = 6 := by rw [hX1.out]; rfl)
    clear hst1 hsz1
    have hb4 := bel_alloc w3 (.cells X1 fliT)
    have hS4 : SW w5 (w3.alloc (.cells X1 fliT)) := hb3.trans (hb4.mono hb3.size)
    generalize hw4 : w3.alloc (.cells X1 fliT) = w4 at *
    clear hw4
    have hx := (Below.block hS4 _ HLT5.out).trans HN.out
    have hwb := HB0.out.trans (Below.mono hS4 HB0.out.size)
    clear hb3 hb4 hS4 hL1
    have n0 := (cell_of_row _ _ 0 _ _ (0, 0) hx).trans (show _ = some _ from rfl)
    have n1 := (cell_of_row _ _ 1 _ _ (0, 0) hx).trans (show _ = some _ from rfl)
    have n2 := (cell_of_row _ _ 2 _ _ (0, 0) hx).trans (show _ = some _ from rfl)
    have n3 := (cell_of_row _ _ 3 _ _ (0, 0) hx).trans (show _ = some _ from rfl)
    have n4 := (cell_of_row _ _ 4 _ _ (0, 0) hx).trans (show _ = some _ from rfl)
    have n5 := (cell_of_row _ _ 5 _ _ (0, 0) hx).trans (show _ = some _ from rfl)
    have n6 := (cell_of_row _ _ 6 _ _ (0, 0) hx).trans (show _ = some _ from rfl)
    have z0 := frozen_of_row _ _ 0 _ _ hx
    have z1 := frozen_of_row _ _ 1 _ _ hx
    have z2 := frozen_of_row _ _ 2 _ _ hx
    have z3 := frozen_of_row _ _ 3 _ _ hx
    have z4 := frozen_of_row _ _ 4 _ _ hx
    have z5 := frozen_of_row _ _ 5 _ _ hx
    have z6 := frozen_of_row _ _ 6 _ _ hx
    have HX2 : Hid (∀ W, W = S7 w4 (w.heap.size + 1) (.string noB) (.int .i64 0) (.int .i64 0) (.string noB) (.string noB) (.int .i64 0) (.int .i64 0) → W.heap[(w.heap.size + 1)]? = some (.cells #[.string noB, .int .i64 0, .int .i64 0, .string noB, .string noB, .int .i64 0, .int .i64 0] segT (0, 0)) ∧ Below w.heap.size w W ∧ But w4 W (fun k => k = (w.heap.size + 1))) := Lib.hid (fun W h => by rw [h]; exact ⟨S7.heap hx _ _ _ _ _ _ _, hwb.trans ((S7.but _ _ _ _ _ _ _ _ _).below (hwb).size (fun k hk => by omega)), S7.but _ _ _ _ _ _ _ _ _⟩)
    clear hx hwb
    go_wp2
    obtain ⟨hxx, hbb, hbu⟩ := HX2.out _ rfl
    unfold S7 at hxx hbb hbu
    clear HX2
    generalize hWW : ((((((w4.setCell ⟨(w.heap.size + 1), 0, none⟩ (.string noB)).setCell ⟨(w.heap.size + 1), 1, none⟩ (.int .i64 0)).setCell ⟨(w.heap.size + 1), 2, none⟩ (.int .i64 0)).setCell ⟨(w.heap.size + 1), 3, none⟩ (.string noB)).setCell ⟨(w.heap.size + 1), 4, none⟩ (.string noB)).setCell ⟨(w.heap.size + 1), 5, none⟩ (.int .i64 0)).setCell ⟨(w.heap.size + 1), 6, none⟩ (.int .i64 0) = WW at *
    clear hWW n0 n1 n2 n3 n4 n5 n6 z0 z1 z2 z3 z4 z5 z6
    have c0 := (cell_of_row WW _ 0 _ _ (0, 0) hxx).trans (show _ = some _ from rfl)
    have c1 := (cell_of_row WW _ 1 _ _ (0, 0) hxx).trans (show _ = some _ from rfl)
    have c2 := (cell_of_row WW _ 2 _ _ (0, 0) hxx).trans (show _ = some _ from rfl)
    have c3 := (cell_of_row WW _ 3 _ _ (0, 0) hxx).trans (show _ = some _ from rfl)
    have c4 := (cell_of_row WW _ 4 _ _ (0, 0) hxx).trans (show _ = some _ from rfl)
    have c5 := (cell_of_row WW _ 5 _ _ (0, 0) hxx).trans (show _ = some _ from rfl)
    have c6 := (cell_of_row WW _ 6 _ _ (0, 0) hxx).trans (show _ = some _ from rfl)
    rw [segF_none HX.out]
    refine bodyPost_ret (v := .tuple #[encS7 sgZ, .int .i64 7]) ?_ rfl ⟨rfl, hbb⟩
    simp [results, Tryz.results29, go_sem, c0, c1, c2, c3, c4, c5, c6, sgZ]
  | some f =>
    have hfm := List.mem_of_find?_eq_some ho
    have HFM := Lib.hid hfm
    clear hfm
    have HX := Lib.hid ho
    rw [ho] at KO
    change Hid (∀ W, TblL W v fs → Calls Tryz.prog 27 _ W (OnX f true W)) at KO
    clear ho
    go_upto_region 2 with (go_at_call 27; refine (KO.out _ HV.out).mono ?_; rintro e w3 ⟨X1, A3, c3, rfl, hX1, hL1, hb3⟩; have hst1 := store_fli hX1 w3; have hsz1 : X1.size = 6 := by rw [hX1.out]; rfl)
    clear hst1 hsz1
    have hb4 := bel_alloc w3 (.cells X1 fliT)
    have hS4 : SW w5 (w3.alloc (.cells X1 fliT)) := hb3.trans (hb4.mono hb3.size)
    have n0 := (cells_new w3 X1 fliT 0).trans (show X1[0]? = some (Value.string f.car) by rw [hX1.out]; rfl)
    have n1 := (cells_new w3 X1 fliT 1).trans (show X1[1]? = some (Value.int .i64 f.num) by rw [hX1.out]; rfl)
    have n2 := (cells_new w3 X1 fliT 2).trans (show X1[2]? = some (Value.int .i64 f.pf) by rw [hX1.out]; rfl)
    have n3 := (cells_new w3 X1 fliT 3).trans (show X1[3]? = some (Value.int .i64 f.pt) by rw [hX1.out]; rfl)
    have n4 := (cells_new w3 X1 fliT 4).trans (show X1[4]? = some (Value.int .i64 f.pd) by rw [hX1.out]; rfl)
    have n5 := (cells_new w3 X1 fliT 5).trans (show X1[5]? = some (Value.slice A3 f.lg.length c3) by rw [hX1.out]; rfl)
    have HL4 := Lib.hid (hL1.more hb4)
    generalize hw4 : w3.alloc (.cells X1 fliT) = w4 at *
    clear hw4 hb3 hb4 hL1
    have y0 := f0 _ hS4
    have y1 := f1 _ hS4
    have KS2 := Lib.hid (KS.out (List.ne_nil_of_mem HFM.out) (f.re A3 c3) w4 (HL.out.more hS4) HL4.out (HOT.out.lg f HFM.out) (HOT.out.hm f HFM.out))
    change Hid (Calls Tryz.prog _ _ w4 (fun e w' => ∃ v, e = .returned (.tuple #[v, .int .i64 (legE f day)]) ∧ ROwn segT 7 encSg w4.heap.size w' v (segsL (legF p.l f day)) ∧ Below w4.heap.size w4 w')) at KS2
    obtain ⟨L, hLs⟩ : ∃ L, L = segsL (legF p.l f day) := ⟨_, rfl⟩
    have HLs := Lib.hid hLs
    have hLn : L.length ≤ 10000 := by rw [hLs]; exact segs_len _ _ _ (HOT.out.lg f HFM.out)
    rw [← hLs] at KS2
    clear hLs KO KS
    generalize legE f day = le0 at KS2
    go_upto_region 5 with (go_at_call 90; refine KS2.out.mono ?_; rintro e w6 ⟨v6, rfl, hO6, hb6⟩)
    have hS6 : SW w5 w6 := Below.trans hS4 (Below.mono hb6 hS4.size)
    obtain ⟨A6, c6, rfl, hV6'⟩ := hO6.rowL rtG.len
    have hV6 : RowL 7 encSg w6 (.slice A6 L.length c6) L := ⟨A6, c6, rfl, hV6'⟩
    have HV6 := Lib.hid hV6
    clear n0 n1 n2 n3 n4 n5 y0 y1 hV6' hV6 hO6 hb6 KS2
    have HNO := Lib.hid (fun (h : ∀ (j : Nat) (g : Sg), j < L.length → L[j]? = some g → ftB fr tt g = false) => segF_miss (tt := tt) (fr := fr) HX.out (by
      rw [← HLs.out, List.find?_eq_none]
      intro x hx
      obtain ⟨j, hj⟩ := List.getElem?_of_mem hx
      rw [h j x (List.getElem?_eq_some_iff.1 hj).1 hj]
      simp))
    have HYES := Lib.hid (fun (k : Nat) (y : Sg) (hk : L[k]? = some y) (hp : ftB fr tt y = true) (hno : ∀ (j : Nat) (g : Sg), j < k → L[j]? = some g → ftB fr tt g = false) => segF_hit (tt := tt) (fr := fr) (s := y) HX.out (by
      rw [← HLs.out]
      obtain ⟨hlt, rfl⟩ := List.getElem?_eq_some_iff.1 hk
      rw [List.find?_eq_some_iff_getElem]
      refine ⟨hp, k, hlt, rfl, fun j hj => ?_⟩
      rw [hno j _ hj (List.getElem?_eq_getElem (by omega))]
      rfl))
    have HS6 := Lib.hid hS6
    clear hS6 hS4
    go_wp2
    go_loopw [20] (fun vi wr => ∃ k : Nat, k ≤ L.length ∧ vi = .int .i64 k ∧ Hid (∀ (j : Nat) (g : Sg), j < k → L[j]? = some g → ftB fr tt g = false) ∧ SW w6 wr) (fun vi _ => L.length - (intOf vi).toNat)
    case atStart => exact ⟨0, Nat.zero_le _, rfl, Lib.hid (fun j g h => absurd h (by omega)), Below.refl _ _⟩
    case round =>
      obtain ⟨k, hk, rfl, HK, hS⟩ := hrel
      by_cases hlt : k < L.length
      · obtain ⟨y, hy⟩ : ∃ y, L[k]? = some y := ⟨_, List.getElem?_eq_getElem hlt⟩
        obtain ⟨b, o, e1, hbl, hc⟩ := RowL.at7 (HV6.out.more hS) hy
        cases e1
        have i2 : (k : Int) < (L.length : Int) := by omega
        have d0 := hc 0 _ rfl
        have d1 := hc 1 _ rfl
        have d2 := hc 2 _ rfl
        have d3 := hc 3 _ rfl
        have d4 := hc 4 _ rfl
        have d5 := hc 5 _ rfl
        have d6 := hc 6 _ rfl
        rw [Nat.add_zero] at d0
        have HX2 : Hid (ftB fr tt y = false → ∀ (j : Nat) (g : Sg), j < k + 1 → L[j]? = some g → ftB fr tt g = false) := Lib.hid (fun h j g hj hg => by
          by_cases e : j = k
          · subst e
            rw [hy] at hg
            cases hg
            exact h
          · exact HK.out j g (by omega) hg)
        have HYS := Lib.hid (fun (h : ftB fr tt y = true) => HYES.out k y hy h HK.out)
        clear hc hy hbl
        cases h1 : (y.f.toList == fr.toList) with
        | false =>
          have HY := Lib.hid (HX2.out (by unfold ftB; rw [h1]; rfl))
          clear HX2
          go_wp2
          go_roundw
          case rel => exact ⟨k + 1, by omega, by go_num, HY, hS⟩
          case measure => simp [intOf]; omega
        | true =>
        cases h2 : (y.t.toList == tt.toList) with
        | false =>
          have HY := Lib.hid (HX2.out (by unfold ftB; rw [h1, h2]; rfl))
          clear HX2
          go_wp2
          go_roundw
          case rel => exact ⟨k + 1, by omega, by go_num, HY, hS⟩
          case measure => simp [intOf]; omega
        | true =>
          have HR3 := Lib.hid (HYS.out (by unfold ftB; rw [h1, h2]; rfl))
          clear HX2 HYS
          have hS8 : SW w5 wr := Below.trans HS6.out (Below.mono hS HS6.out.size)
          have hx := (Below.block hS8 _ HLT5.out).trans HN.out
          have hwb := HB0.out.trans (Below.mono hS8 HB0.out.size)
          clear hS hS8
          go_upto_region 9 with fail
          have n0 := (cell_of_row _ _ 0 _ _ (0, 0) hx).trans (show _ = some _ from rfl)
          have n1 := (cell_of_row _ _ 1 _ _ (0, 0) hx).trans (show _ = some _ from rfl)
          have n2 := (cell_of_row _ _ 2 _ _ (0, 0) hx).trans (show _ = some _ from rfl)
          have n3 := (cell_of_row _ _ 3 _ _ (0, 0) hx).trans (show _ = some _ from rfl)
          have n4 := (cell_of_row _ _ 4 _ _ (0, 0) hx).trans (show _ = some _ from rfl)
          have n5 := (cell_of_row _ _ 5 _ _ (0, 0) hx).trans (show _ = some _ from rfl)
          have n6 := (cell_of_row _ _ 6 _ _ (0, 0) hx).trans (show _ = some _ from rfl)
          have z0 := frozen_of_row _ _ 0 _ _ hx
          have z1 := frozen_of_row _ _ 1 _ _ hx
          have z2 := frozen_of_row _ _ 2 _ _ hx
          have z3 := frozen_of_row _ _ 3 _ _ hx
          have z4 := frozen_of_row _ _ 4 _ _ hx
          have z5 := frozen_of_row _ _ 5 _ _ hx
          have z6 := frozen_of_row _ _ 6 _ _ hx
          have HX2 : Hid (∀ W, W = S7 wr (w.heap.size + 1) (.string y.car) (.int .i64 y.num) (.int .i64 y.day) (.string y.f) (.string y.t) (.int .i64 y.dep) (.int .i64 y.arr) → W.heap[(w.heap.size + 1)]? = some (.cells #[.string y.car, .int .i64 y.num, .int .i64 y.day, .string y.f, .string y.t, .int .i64 y.dep, .int .i64 y.arr] segT (0, 0)) ∧ Below w.heap.size w W ∧ But wr W (fun k => k = (w.heap.size + 1))) := Lib.hid (fun W h => by rw [h]; exact ⟨S7.heap hx _ _ _ _ _ _ _, hwb.trans ((S7.but _ _ _ _ _ _ _ _ _).below (hwb).size (fun k hk => by omega)), S7.but _ _ _ _ _ _ _ _ _⟩)
          clear hx hwb
          go_wp2
          obtain ⟨hxx, hbb, hbu⟩ := HX2.out _ rfl
          unfold S7 at hxx hbb hbu
          clear HX2
          generalize hWW : ((((((wr.setCell ⟨(w.heap.size + 1), 0, none⟩ (.string y.car)).setCell ⟨(w.heap.size + 1), 1, none⟩ (.int .i64 y.num)).setCell ⟨(w.heap.size + 1), 2, none⟩ (.int .i64 y.day)).setCell ⟨(w.heap.size + 1), 3, none⟩ (.string y.f)).setCell ⟨(w.heap.size + 1), 4, none⟩ (.string y.t)).setCell ⟨(w.heap.size + 1), 5, none⟩ (.int .i64 y.dep)).setCell ⟨(w.heap.size + 1), 6, none⟩ (.int .i64 y.arr) = WW at *
          clear hWW n0 n1 n2 n3 n4 n5 n6 z0 z1 z2 z3 z4 z5 z6
          have c0 := (cell_of_row WW _ 0 _ _ (0, 0) hxx).trans (show _ = some _ from rfl)
          have c1 := (cell_of_row WW _ 1 _ _ (0, 0) hxx).trans (show _ = some _ from rfl)
          have c2 := (cell_of_row WW _ 2 _ _ (0, 0) hxx).trans (show _ = some _ from rfl)
          have c3 := (cell_of_row WW _ 3 _ _ (0, 0) hxx).trans (show _ = some _ from rfl)
          have c4 := (cell_of_row WW _ 4 _ _ (0, 0) hxx).trans (show _ = some _ from rfl)
          have c5 := (cell_of_row WW _ 5 _ _ (0, 0) hxx).trans (show _ = some _ from rfl)
          have c6 := (cell_of_row WW _ 6 _ _ (0, 0) hxx).trans (show _ = some _ from rfl)
          rw [HR3.out]
          refine bodyPost_ret (v := .tuple #[encS7 y, .int .i64 0]) ?_ rfl ⟨rfl, hbb⟩
          simp [results, Tryz.results29, go_sem, c0, c1, c2, c3, c4, c5, c6]
      · have hk' : k = L.length := by omega
        have HR3 := Lib.hid (HNO.out (by rw [← hk']; exact HK.out))
        have i2 : ¬ (k : Int) < (L.length : Int) := by omega
        have hS8 : SW w5 wr := Below.trans HS6.out (Below.mono hS HS6.out.size)
        have hx := (Below.block hS8 _ HLT5.out).trans HN.out
        have hwb := HB0.out.trans (Below.mono hS8 HB0.out.size)
        clear hS hS8 hk'
        go_upto_region 10 with fail
        have n0 := (cell_of_row _ _ 0 _ _ (0, 0) hx).trans (show _ = some _ from rfl)
        have n1 := (cell_of_row _ _ 1 _ _ (0, 0) hx).trans (show _ = some _ from rfl)
        have n2 := (cell_of_row _ _ 2 _ _ (0, 0) hx).trans (show _ = some _ from rfl)
        have n3 := (cell_of_row _ _ 3 _ _ (0, 0) hx).trans (show _ = some _ from rfl)
        have n4 := (cell_of_row _ _ 4 _ _ (0, 0) hx).trans (show _ = some _ from rfl)
        have n5 := (cell_of_row _ _ 5 _ _ (0, 0) hx).trans (show _ = some _ from rfl)
        have n6 := (cell_of_row _ _ 6 _ _ (0, 0) hx).trans (show _ = some _ from rfl)
        have z0 := frozen_of_row _ _ 0 _ _ hx
        have z1 := frozen_of_row _ _ 1 _ _ hx
        have z2 := frozen_of_row _ _ 2 _ _ hx
        have z3 := frozen_of_row _ _ 3 _ _ hx
        have z4 := frozen_of_row _ _ 4 _ _ hx
        have z5 := frozen_of_row _ _ 5 _ _ hx
        have z6 := frozen_of_row _ _ 6 _ _ hx
        have HX2 : Hid (∀ W, W = S7 wr (w.heap.size + 1) (.string noB) (.int .i64 0) (.int .i64 0) (.string noB) (.string noB) (.int .i64 0) (.int .i64 0) → W.heap[(w.heap.size + 1)]? = some (.cells #[.string noB, .int .i64 0, .int .i64 0, .string noB, .string noB, .int .i64 0, .int .i64 0] segT (0, 0)) ∧ Below w.heap.size w W ∧ But wr W (fun k => k = (w.heap.size + 1))) := Lib.hid (fun W h => by rw [h]; exact ⟨S7.heap hx _ _ _ _ _ _ _, hwb.trans ((S7.but _ _ _ _ _ _ _ _ _).below (hwb).size (fun k hk => by omega)), S7.but _ _ _ _ _ _ _ _ _⟩)
        clear hx hwb
        go_wp2
        obtain ⟨hxx, hbb, hbu⟩ := HX2.out _ rfl
        unfold S7 at hxx hbb hbu
        clear HX2
        generalize hWW : ((((((wr.setCell ⟨(w.heap.size + 1), 0, none⟩ (.string noB)).setCell ⟨(w.heap.size + 1), 1, none⟩ (.int .i64 0)).setCell ⟨(w.heap.size + 1), 2, none⟩ (.int .i64 0)).setCell ⟨(w.heap.size + 1), 3, none⟩ (.string noB)).setCell ⟨(w.heap.size + 1), 4, none⟩ (.string noB)).setCell ⟨(w.heap.size + 1), 5, none⟩ (.int .i64 0)).setCell ⟨(w.heap.size + 1), 6, none⟩ (.int .i64 0) = WW at *
        clear hWW n0 n1 n2 n3 n4 n5 n6 z0 z1 z2 z3 z4 z5 z6
        have c0 := (cell_of_row WW _ 0 _ _ (0, 0) hxx).trans (show _ = some _ from rfl)
        have c1 := (cell_of_row WW _ 1 _ _ (0, 0) hxx).trans (show _ = some _ from rfl)
        have c2 := (cell_of_row WW _ 2 _ _ (0, 0) hxx).trans (show _ = some _ from rfl)
        have c3 := (cell_of_row WW _ 3 _ _ (0, 0) hxx).trans (show _ = some _ from rfl)
        have c4 := (cell_of_row WW _ 4 _ _ (0, 0) hxx).trans (show _ = some _ from rfl)
        have c5 := (cell_of_row WW _ 5 _ _ (0, 0) hxx).trans (show _ = some _ from rfl)
        have c6 := (cell_of_row WW _ 6 _ _ (0, 0) hxx).trans (show _ = some _ from rfl)
        rw [HR3.out]
        refine bodyPost_ret (v := .tuple #[encS7 sgZ, .int .i64 14]) ?_ rfl ⟨rfl, hbb⟩
        simp [results, Tryz.results29, go_sem, c0, c1, c2, c3, c4, c5, c6, sgZ]

end Go.Proofs.YtldillnjnjkkgaaGreatDoor

/- Walks of cmp.Compare, cmp.Or and the comparison of legs; the library's stable sort at legs. -/
namespace Go.Proofs.YtldillnjnjkkgaaGreatDoor
open Go.RowKit Go.Shelf Go.Lib Go.Sort
set_option linter.unusedSimpArgs false
set_option linter.unusedVariables false

set_option maxRecDepth 100000 in
theorem nanI_any (x : Int) (w : World) : Calls Tryz.prog 223 #[.int .i64 x] w fun e w' => e = .returned (.bool false) ∧ w' = w := by
  have h : (x != x) = false := by simp
  go_enter Tryz.func223, Tryz.ntmps223
  go_wp2
  go_ret
  exact ⟨by first | rfl | (simp), rfl⟩
set_option maxRecDepth 100000 in
theorem nanS_any (x : ByteArray) (w : World) : Calls Tryz.prog 224 #[.string x] w fun e w' => e = .returned (.bool false) ∧ w' = w := by
  have h : (x.toList == x.toList) = true := by simp
  go_enter Tryz.func224, Tryz.ntmps224
  go_wp2
  go_ret
  exact ⟨by first | rfl | (simp), rfl⟩
set_option maxRecDepth 100000 in
set_option maxHeartbeats 4000000 in
theorem cmpI_any (x y : Int) (w : World) : Calls Tryz.prog 172 #[.int .i64 x, .int .i64 y] w fun e w' => e = .returned (.int .i64 (Lib.compareInt x y)) ∧ w' = w := by
  have K1 := Lib.hid (nanI_any x w)
  have K2 := Lib.hid (nanI_any y w)
  rcases cmp_int x y with ⟨h, e⟩ | ⟨h, e⟩ | ⟨h, e⟩ <;> rw [e]
  · go_enter Tryz.func172, Tryz.ntmps172
    go_wp2_with (first | (go_at_call 223; with_reducible refine K1.out.mono ?_; rintro e w' ⟨rfl, rfl⟩) | (go_at_call 223; with_reducible refine K2.out.mono ?_; rintro e w' ⟨rfl, rfl⟩))
    go_ret
    exact ⟨rfl, rfl⟩
  · subst h
    have i1 : ¬ x < x := by omega
    go_enter Tryz.func172, Tryz.ntmps172
    go_wp2_with (first | (go_at_call 223; with_reducible refine K1.out.mono ?_; rintro e w' ⟨rfl, rfl⟩) | (go_at_call 223; with_reducible refine K2.out.mono ?_; rintro e w' ⟨rfl, rfl⟩))
    go_ret
    exact ⟨rfl, rfl⟩
  · have i1 : ¬ x < y := by omega
    go_enter Tryz.func172, Tryz.ntmps172
    go_wp2_with (first | (go_at_call 223; with_reducible refine K1.out.mono ?_; rintro e w' ⟨rfl, rfl⟩) | (go_at_call 223; with_reducible refine K2.out.mono ?_; rintro e w' ⟨rfl, rfl⟩))
    go_ret
    exact ⟨rfl, rfl⟩
set_option maxRecDepth 100000 in
set_option maxHeartbeats 4000000 in
theorem cmpS_any (x y : ByteArray) (w : World) : Calls Tryz.prog 173 #[.string x, .string y] w fun e w' => e = .returned (.int .i64 (cmT x y)) ∧ w' = w := by
  have K1 := Lib.hid (nanS_any x w)
  have K2 := Lib.hid (nanS_any y w)
  rcases cmp_txt x y with ⟨h, e⟩ | ⟨h, e⟩ | ⟨h, e⟩ <;> rw [e] <;> clear e
  · have h1 : Op.bytesLess x.toList y.toList = true := h
    go_enter Tryz.func173, Tryz.ntmps173
    go_wp2_with (first | (go_at_call 224; with_reducible refine K1.out.mono ?_; rintro e w' ⟨rfl, rfl⟩) | (go_at_call 224; with_reducible refine K2.out.mono ?_; rintro e w' ⟨rfl, rfl⟩))
    go_ret
    exact ⟨rfl, rfl⟩
  · subst h
    have h1 : Op.bytesLess x.toList x.toList = false := by simpa [LessT] using lessT_irrefl x
    have h2 : (x.toList == x.toList) = true := by simp
    go_enter Tryz.func173, Tryz.ntmps173
    go_wp2_with (first | (go_at_call 224; with_reducible refine K1.out.mono ?_; rintro e w' ⟨rfl, rfl⟩) | (go_at_call 224; with_reducible refine K2.out.mono ?_; rintro e w' ⟨rfl, rfl⟩))
    go_ret
    exact ⟨rfl, rfl⟩
  · have h1 : Op.bytesLess x.toList y.toList = false := less_asym _ _ h
    have h2 : (x.toList == y.toList) = false := by
      rw [car_eq, decide_eq_false_iff_not]
      rintro rfl
      exact lessT_irrefl _ h
    clear h
    go_enter Tryz.func173, Tryz.ntmps173
    go_wp2_with (first | (go_at_call 224; with_reducible refine K1.out.mono ?_; rintro e w' ⟨rfl, rfl⟩) | (go_at_call 224; with_reducible refine K2.out.mono ?_; rintro e w' ⟨rfl, rfl⟩))
    go_ret
    exact ⟨rfl, rfl⟩
set_option maxRecDepth 100000 in
set_option maxHeartbeats 4000000 in
theorem or3_any (b : Nat) (x y z : Int) (w : World) (c0 : w.cell? ⟨b, 0, none⟩ = some (.int .i64 x)) (c1 : w.cell? ⟨b, 1, none⟩ = some (.int .i64 y)) (c2 : w.cell? ⟨b, 2, none⟩ = some (.int .i64 z)) :
    Calls Tryz.prog 171 #[.slice (some ⟨b, 0, none⟩) 3 3] w fun e w' => e = .returned (.int .i64 (if x ≠ 0 then x else if y ≠ 0 then y else z)) ∧ w' = w := by
  obtain ⟨R, hR⟩ : ∃ R, R = (if x ≠ 0 then x else if y ≠ 0 then y else z) := ⟨_, rfl⟩
  rw [← hR]
  cases h0 : (x != 0) with
  | true =>
    have HR : Hid (x = R) := Lib.hid (by rw [hR, if_pos (by simpa using h0)])
    clear hR
    go_enter Tryz.func171, Tryz.ntmps171
    go_wp2
    go_loopw [8] (fun vi wr => ∃ k : Nat, k ≤ 0 ∧ vi = .int .i64 k ∧ wr = w) (fun vi _ => 3 - (intOf vi).toNat)
    case atStart => exact ⟨0, Nat.zero_le _, by first | rfl | trivial, by first | rfl | trivial⟩
    case round =>
      obtain ⟨k, hk, rfl, rfl⟩ := hrel
      obtain rfl : k = 0 := by omega
      · clear hk
        go_wp2
        go_ret
        exact ⟨ret_int HR.out, rfl⟩
  | false =>
  cases h1 : (y != 0) with
  | true =>
    have HR : Hid (y = R) := Lib.hid (by rw [hR, if_neg (by simpa using h0), if_pos (by simpa using h1)])
    clear hR
    go_enter Tryz.func171, Tryz.ntmps171
    go_wp2
    go_loopw [8] (fun vi wr => ∃ k : Nat, k ≤ 1 ∧ vi = .int .i64 k ∧ wr = w) (fun vi _ => 3 - (intOf vi).toNat)
    case atStart => exact ⟨0, Nat.zero_le _, by first | rfl | trivial, by first | rfl | trivial⟩
    case round =>
      obtain ⟨k, hk, rfl, rfl⟩ := hrel
      rcases (show k = 0 ∨ k = 1 by omega) with rfl | rfl
      · clear hk
        go_wp2
        go_roundw
        case rel => exact ⟨1, by omega, by first | rfl | trivial, by first | rfl | trivial⟩
        case measure => simp [intOf]
      · clear hk
        go_wp2
        go_ret
        exact ⟨ret_int HR.out, rfl⟩
  | false =>
  cases h2 : (z != 0) with
  | true =>
    have HR : Hid (z = R) := Lib.hid (by rw [hR, if_neg (by simpa using h0), if_neg (by simpa using h1)])
    clear hR
    go_enter Tryz.func171, Tryz.ntmps171
    go_wp2
    go_loopw [8] (fun vi wr => ∃ k : Nat, k ≤ 2 ∧ vi = .int .i64 k ∧ wr = w) (fun vi _ => 3 - (intOf vi).toNat)
    case atStart => exact ⟨0, Nat.zero_le _, by first | rfl | trivial, by first | rfl | trivial⟩
    case round =>
      obtain ⟨k, hk, rfl, rfl⟩ := hrel
      rcases (show k = 0 ∨ k = 1 ∨ k = 2 by omega) with rfl | rfl | rfl
      · clear hk
        go_wp2
        go_roundw
        case rel => exact ⟨1, by omega, by first | rfl | trivial, by first | rfl | trivial⟩
        case measure => simp [intOf]
      · clear hk
        go_wp2
        go_roundw
        case rel => exact ⟨2, by omega, by first | rfl | trivial, by first | rfl | trivial⟩
        case measure => simp [intOf]
      · clear hk
        go_wp2
        go_ret
        exact ⟨ret_int HR.out, rfl⟩
  | false =>
    have HR : Hid (0 = R) := Lib.hid (by rw [hR, if_neg (by simpa using h0), if_neg (by simpa using h1)]; exact (show z = 0 by simpa using h2).symm)
    clear hR
    go_enter Tryz.func171, Tryz.ntmps171
    go_wp2
    go_loopw [8] (fun vi wr => ∃ k : Nat, k ≤ 3 ∧ vi = .int .i64 k ∧ wr = w) (fun vi _ => 3 - (intOf vi).toNat)
    case atStart => exact ⟨0, Nat.zero_le _, by first | rfl | trivial, by first | rfl | trivial⟩
    case round =>
      obtain ⟨k, hk, rfl, rfl⟩ := hrel
      rcases (show k = 0 ∨ k = 1 ∨ k = 2 ∨ k = 3 by omega) with rfl | rfl | rfl | rfl
      · clear hk
        go_wp2
        go_roundw
        case rel => exact ⟨1, by omega, by first | rfl | trivial, by first | rfl | trivial⟩
        case measure => simp [intOf]
      · clear hk
        go_wp2
        go_roundw
        case rel => exact ⟨2, by omega, by first | rfl | trivial, by first | rfl | trivial⟩
        case measure => simp [intOf]
      · clear hk
        go_wp2
        go_roundw
        case rel => exact ⟨3, by omega, by first | rfl | trivial, by first | rfl | trivial⟩
        case measure => simp [intOf]
      · clear hk
        go_wp2
        go_ret
        exact ⟨ret_int HR.out, rfl⟩

/-- a world that has only drawn and grown -/
structure GR (w W : World) : Prop where
  bel : Below w.heap.size w W
  dr : w.drawn ≤ W.drawn
theorem GR.refl (w : World) : GR w w := ⟨Below.refl _ _, Nat.le_refl _⟩
theorem GR.drew {w W : World} (h : GR w W) : GR w W.drew := ⟨h.bel.drew, Nat.le_trans h.dr (Nat.le_succ _)⟩
theorem GR.alloc {w W : World} (h : GR w W) (o : Obj) : GR w (W.alloc o) := ⟨h.bel.trans ((bel_alloc W o).mono h.bel.size), h.dr⟩
theorem GR.grown {w W : World} (h : GR w W) : ∃ q os, W = grow (w.drewN q) os := by
  obtain ⟨⟨h1, h2, h3, h4, h5⟩, h6⟩ := h
  refine ⟨W.drawn - w.drawn, W.heap.extract w.heap.size W.heap.size, ?_⟩
  obtain ⟨hp, tp, dr, os, out⟩ := W
  obtain ⟨hp', tp', dr', os', out'⟩ := w
  dsimp only at h1 h2 h3 h4 h5 h6
  subst h1 h2 h3
  unfold grow World.drewN
  dsimp only
  congr 1
  · apply Array.ext_getElem?
    intro i
    by_cases hi : i < hp'.size
    · rw [Array.getElem?_append_left hi]; exact h5 i hi
    · rw [Array.getElem?_append_right (by omega), Array.getElem?_extract]
      by_cases hi2 : i < hp.size
      · rw [if_pos (by omega)]; congr 1; omega
      · rw [if_neg (by omega), Array.getElem?_eq_none (by omega)]
  · omega
theorem GR.cells {w W : World} {a : Addr} {v : Value} (h : GR w W) (hc : w.cell? a = some v) : W.cell? a = some v := bel_cell h.bel hc
set_option maxRecDepth 100000 in
set_option maxHeartbeats 8000000 in
theorem cmpD_any (x y : Dt) (w : World) : Calls Tryz.prog 92 #[.agg #[.string x.car, .int .i64 x.num, .int .i64 x.day, .string x.f, .string x.t, .int .i64 x.dep, .int .i64 x.arr, .string x.eq], .agg #[.string y.car, .int .i64 y.num, .int .i64 y.day, .string y.f, .string y.t, .int .i64 y.dep, .int .i64 y.arr, .string y.eq]] w fun e w' => e = .returned (.int .i64 (cmD x y)) ∧ ∃ q os', w' = grow (w.drewN q) os' := by
  have hb1 := bel_alloc w (.cells #[.string x.car, .int .i64 x.num, .int .i64 x.day, .string x.f, .string x.t, .int .i64 x.dep, .int .i64 x.arr, .string x.eq] datT)
  have hb2 := bel_alloc (w.alloc (.cells #[.string x.car, .int .i64 x.num, .int .i64 x.day, .string x.f, .string x.t, .int .i64 x.dep, .int .i64 x.arr, .string x.eq] datT)) (.cells #[.string y.car, .int .i64 y.num, .int .i64 y.day, .string y.f, .string y.t, .int .i64 y.dep, .int .i64 y.arr, .string y.eq] datT)
  have p0 := bel_cell hb2 ((cells_new w #[.string x.car, .int .i64 x.num, .int .i64 x.day, .string x.f, .string x.t, .int .i64 x.dep, .int .i64 x.arr, .string x.eq] datT 0).trans (show _ = some (Value.string x.car) from rfl))
  have q0 := (cells_new (w.alloc (.cells #[.string x.car, .int .i64 x.num, .int .i64 x.day, .string x.f, .string x.t, .int .i64 x.dep, .int .i64 x.arr, .string x.eq] datT)) #[.string y.car, .int .i64 y.num, .int .i64 y.day, .string y.f, .string y.t, .int .i64 y.dep, .int .i64 y.arr, .string y.eq] datT 0).trans (show _ = some (Value.string y.car) from rfl)
  have p1 := bel_cell hb2 ((cells_new w #[.string x.car, .int .i64 x.num, .int .i64 x.day, .string x.f, .string x.t, .int .i64 x.dep, .int .i64 x.arr, .string x.eq] datT 1).trans (show _ = some (Value.int .i64 x.num) from rfl))
  have q1 := (cells_new (w.alloc (.cells #[.string x.car, .int .i64 x.num, .int .i64 x.day, .string x.f, .string x.t, .int .i64 x.dep, .int .i64 x.arr, .string x.eq] datT)) #[.string y.car, .int .i64 y.num, .int .i64 y.day, .string y.f, .string y.t, .int .i64 y.dep, .int .i64 y.arr, .string y.eq] datT 1).trans (show _ = some (Value.int .i64 y.num) from rfl)
  have p5 := bel_cell hb2 ((cells_new w #[.string x.car, .int .i64 x.num, .int .i64 x.day, .string x.f, .string x.t, .int .i64 x.dep, .int .i64 x.arr, .string x.eq] datT 5).trans (show _ = some (Value.int .i64 x.dep) from rfl))
  have q5 := (cells_new (w.alloc (.cells #[.string x.car, .int .i64 x.num, .int .i64 x.day, .string x.f, .string x.t, .int .i64 x.dep, .int .i64 x.arr, .string x.eq] datT)) #[.string y.car, .int .i64 y.num, .int .i64 y.day, .string y.f, .string y.t, .int .i64 y.dep, .int .i64 y.arr, .string y.eq] datT 5).trans (show _ = some (Value.int .i64 y.dep) from rfl)
  rw [World.size_alloc] at q0 q1 q5
  have hg : GR w ((w.alloc (.cells #[.string x.car, .int .i64 x.num, .int .i64 x.day, .string x.f, .string x.t, .int .i64 x.dep, .int .i64 x.arr, .string x.eq] datT)).alloc (.cells #[.string y.car, .int .i64 y.num, .int .i64 y.day, .string y.f, .string y.t, .int .i64 y.dep, .int .i64 y.arr, .string y.eq] datT)) := ((GR.refl w).alloc _).alloc _
  have HC : Hid (cmD x y = (if Lib.compareInt x.dep y.dep ≠ 0 then Lib.compareInt x.dep y.dep else if cmT x.car y.car ≠ 0 then cmT x.car y.car else Lib.compareInt x.num y.num)) := Lib.hid rfl
  have K1 := Lib.hid (fun W => cmpI_any x.dep y.dep W)
  have K2 := Lib.hid (fun W => cmpS_any x.car y.car W)
  have K3 := Lib.hid (fun W => cmpI_any x.num y.num W)
  generalize cmD x y = R at *
  generalize Lib.compareInt x.dep y.dep = r1 at *
  generalize cmT x.car y.car = r2 at *
  generalize Lib.compareInt x.num y.num = r3 at *
  have K4 := Lib.hid (fun b W => or3_any b r1 r2 r3 W)
  rw [← HC.out] at K4
  clear HC hb1 hb2
  go_enter Tryz.func92, Tryz.ntmps92
  go_upto_region 1 with fail
  generalize hw5 : (w.alloc (.cells #[.string x.car, .int .i64 x.num, .int .i64 x.day, .string x.f, .string x.t, .int .i64 x.dep, .int .i64 x.arr, .string x.eq] datT)).alloc (.cells #[.string y.car, .int .i64 y.num, .int .i64 y.day, .string y.f, .string y.t, .int .i64 y.dep, .int .i64 y.arr, .string y.eq] datT) = w5 at *
  clear hw5
  have HG := Lib.hid hg
  clear hg
  have f0 : ∀ W, GR w5 W → _ := fun W h => GR.cells h p0
  have g0 : ∀ W, GR w5 W → _ := fun W h => GR.cells h q0
  have f1 : ∀ W, GR w5 W → _ := fun W h => GR.cells h p1
  have g1 : ∀ W, GR w5 W → _ := fun W h => GR.cells h q1
  have f5 : ∀ W, GR w5 W → _ := fun W h => GR.cells h p5
  have g5 : ∀ W, GR w5 W → _ := fun W h => GR.cells h q5
  clear p0 p1 p5 q0 q1 q5
  have O0 : Hid (((w5.alloc (.cells #[.int .i64 r1, .int .i64 r2, .int .i64 r3] 3)).drew).cell? ⟨w5.heap.size, 0, none⟩ = some (.int .i64 r1)) := Lib.hid ((cells_new w5 #[.int .i64 r1, .int .i64 r2, .int .i64 r3] 3 0).trans (show _ = some _ from rfl))
  have O1 : Hid (((w5.alloc (.cells #[.int .i64 r1, .int .i64 r2, .int .i64 r3] 3)).drew).cell? ⟨w5.heap.size, 1, none⟩ = some (.int .i64 r2)) := Lib.hid ((cells_new w5 #[.int .i64 r1, .int .i64 r2, .int .i64 r3] 3 1).trans (show _ = some _ from rfl))
  have O2 : Hid (((w5.alloc (.cells #[.int .i64 r1, .int .i64 r2, .int .i64 r3] 3)).drew).cell? ⟨w5.heap.size, 2, none⟩ = some (.int .i64 r3)) := Lib.hid ((cells_new w5 #[.int .i64 r1, .int .i64 r2, .int .i64 r3] 3 2).trans (show _ = some _ from rfl))
  have hS : (GR w5) _ := (GR.refl _).drew
  refine wp_region_held_drew (S := GR w5) (by kernel_rfl) hS (fun _ => ?_)
  refine wpAnyH_take (i := 0) (v := ?vC0) rfl (by kernel_rfl) (by kernel_rfl) (by kernel_rfl) (fun _ _ _ h => h) (Or.inl ⟨by rfl, ?hyC0⟩) hS ?restC0
  case hyC0 =>
    intro w hSw
    first | (go_simp; done) | (go_simp; with_reducible rfl)
  try simp only [Act.put, List.setIfInBounds_toArray, List.set_cons_zero, List.set_cons_succ]
  refine wpAnyH_take (i := 1) (v := ?vC1) rfl (by kernel_rfl) (by kernel_rfl) (by kernel_rfl) (fun _ _ _ h => h) (Or.inl ⟨by rfl, ?hyC1⟩) hS ?restC1
  case hyC1 =>
    intro w hSw
    have k0 := f0 w hSw; have k1 := f1 w hSw; have k2 := f5 w hSw; have k3 := g0 w hSw; have k4 := g1 w hSw; have k5 := g5 w hSw
    first | (go_simp; done) | (go_simp; with_reducible rfl)
  try simp only [Act.put, List.setIfInBounds_toArray, List.set_cons_zero, List.set_cons_succ]
  refine wpAnyH_take (i := 2) (v := ?vC2) rfl (by kernel_rfl) (by kernel_rfl) (by kernel_rfl) (fun _ _ _ h => h) (Or.inl ⟨by rfl, ?hyC2⟩) hS ?restC2
  case hyC2 =>
    intro w hSw
    first | (go_simp; done) | (go_simp; with_reducible rfl)
  try simp only [Act.put, List.setIfInBounds_toArray, List.set_cons_zero, List.set_cons_succ]
  refine wpAnyH_take (i := 3) (v := ?vC3) rfl (by kernel_rfl) (by kernel_rfl) (by kernel_rfl) (fun _ _ _ h => h) (Or.inl ⟨by rfl, ?hyC3⟩) hS ?restC3
  case hyC3 =>
    intro w hSw
    have k0 := f0 w hSw; have k1 := f1 w hSw; have k2 := f5 w hSw; have k3 := g0 w hSw; have k4 := g1 w hSw; have k5 := g5 w hSw
    first | (go_simp; done) | (go_simp; with_reducible rfl)
  try simp only [Act.put, List.setIfInBounds_toArray, List.set_cons_zero, List.set_cons_succ]
  refine wpAnyH_take (i := 5) (v := ?vC5) rfl (by kernel_rfl) (by kernel_rfl) (by kernel_rfl) (fun _ _ _ h => h) (Or.inl ⟨by rfl, ?hyC5⟩) hS ?restC5
  case hyC5 =>
    intro w hSw
    first | (go_simp; done) | (go_simp; with_reducible rfl)
  try simp only [Act.put, List.setIfInBounds_toArray, List.set_cons_zero, List.set_cons_succ]
  refine wpAnyH_take (i := 6) (v := ?vC6) rfl (by kernel_rfl) (by kernel_rfl) (by kernel_rfl) (fun _ _ _ h => h) (Or.inl ⟨by rfl, ?hyC6⟩) hS ?restC6
  case hyC6 =>
    intro w hSw
    have k0 := f0 w hSw; have k1 := f1 w hSw; have k2 := f5 w hSw; have k3 := g0 w hSw; have k4 := g1 w hSw; have k5 := g5 w hSw
    first | (go_simp; done) | (go_simp; with_reducible rfl)
  try simp only [Act.put, List.setIfInBounds_toArray, List.set_cons_zero, List.set_cons_succ]
  refine wpAnyH_take (i := 7) (v := ?vC7) rfl (by kernel_rfl) (by kernel_rfl) (by kernel_rfl) (fun _ _ _ h => h) (Or.inl ⟨by rfl, ?hyC7⟩) hS ?restC7
  case hyC7 =>
    intro w hSw
    first | (go_simp; done) | (go_simp; with_reducible rfl)
  try simp only [Act.put, List.setIfInBounds_toArray, List.set_cons_zero, List.set_cons_succ]
  refine wpAnyH_take (i := 8) (v := ?vC8) rfl (by kernel_rfl) (by kernel_rfl) (by kernel_rfl) (fun _ _ _ h => h) (Or.inl ⟨by rfl, ?hyC8⟩) hS ?restC8
  case hyC8 =>
    intro w hSw
    have k0 := f0 w hSw; have k1 := f1 w hSw; have k2 := f5 w hSw; have k3 := g0 w hSw; have k4 := g1 w hSw; have k5 := g5 w hSw
    first | (go_simp; done) | (go_simp; with_reducible rfl)
  try simp only [Act.put, List.setIfInBounds_toArray, List.set_cons_zero, List.set_cons_succ]
  refine wpAnyH_take (i := 10) (v := ?vC10) rfl (by kernel_rfl) (by kernel_rfl) (by kernel_rfl) (fun _ _ _ h => h) (Or.inl ⟨by rfl, ?hyC10⟩) hS ?restC10
  case hyC10 =>
    intro w hSw
    first | (go_simp; done) | (go_simp; with_reducible rfl)
  try simp only [Act.put, List.setIfInBounds_toArray, List.set_cons_zero, List.set_cons_succ]
  refine wpAnyH_take (i := 11) (v := ?vC11) rfl (by kernel_rfl) (by kernel_rfl) (by kernel_rfl) (fun _ _ _ h => h) (Or.inl ⟨by rfl, ?hyC11⟩) hS ?restC11
  case hyC11 =>
    intro w hSw
    have k0 := f0 w hSw; have k1 := f1 w hSw; have k2 := f5 w hSw; have k3 := g0 w hSw; have k4 := g1 w hSw; have k5 := g5 w hSw
    first | (go_simp; done) | (go_simp; with_reducible rfl)
  try simp only [Act.put, List.setIfInBounds_toArray, List.set_cons_zero, List.set_cons_succ]
  refine wpAnyH_take (i := 12) (v := ?vC12) rfl (by kernel_rfl) (by kernel_rfl) (by kernel_rfl) (fun _ _ _ h => h) (Or.inl ⟨by rfl, ?hyC12⟩) hS ?restC12
  case hyC12 =>
    intro w hSw
    first | (go_simp; done) | (go_simp; with_reducible rfl)
  try simp only [Act.put, List.setIfInBounds_toArray, List.set_cons_zero, List.set_cons_succ]
  refine wpAnyH_take (i := 13) (v := ?vC13) rfl (by kernel_rfl) (by kernel_rfl) (by kernel_rfl) (fun _ _ _ h => h) (Or.inl ⟨by rfl, ?hyC13⟩) hS ?restC13
  case hyC13 =>
    intro w hSw
    have k0 := f0 w hSw; have k1 := f1 w hSw; have k2 := f5 w hSw; have k3 := g0 w hSw; have k4 := g1 w hSw; have k5 := g5 w hSw
    first | (go_simp; done) | (go_simp; with_reducible rfl)
  try simp only [Act.put, List.setIfInBounds_toArray, List.set_cons_zero, List.set_cons_succ]
  refine wpAnyH_ready (rs := [4]) (by kernel_rfl) (by simp) ?_
  refine AllReadyH.cons rfl (fun K hK => ?_) AllReadyH.nil
  go_simp
  go_wp2_with ((go_at_call 172; with_reducible refine (K1.out _).mono ?_; rintro e w7 ⟨rfl, rfl⟩))
  refine hK.out _ _ hS (fun _ => ?_)
  clear hK K
  refine wpAnyH_ready (rs := [9]) (by kernel_rfl) (by simp) ?_
  refine AllReadyH.cons rfl (fun K hK => ?_) AllReadyH.nil
  go_simp
  go_wp2_with ((go_at_call 173; with_reducible refine (K2.out _).mono ?_; rintro e w7 ⟨rfl, rfl⟩))
  refine hK.out _ _ hS (fun _ => ?_)
  clear hK K
  refine wpAnyH_ready (rs := [14]) (by kernel_rfl) (by simp) ?_
  refine AllReadyH.cons rfl (fun K hK => ?_) AllReadyH.nil
  go_simp
  go_wp2_with ((go_at_call 172; with_reducible refine (K3.out _).mono ?_; rintro e w7 ⟨rfl, rfl⟩))
  refine hK.out _ _ hS (fun _ => ?_)
  clear hK K
  refine wpAnyH_ready (rs := [15]) (by kernel_rfl) (by simp) ?_
  refine AllReadyH.cons rfl (fun K hK => ?_) AllReadyH.nil
  go_simp
  have hSp := hS
  have hS := hS.alloc (.cells #[.int .i64 r1, .int .i64 r2, .int .i64 r3] 3)
  refine hK.out _ _ hS (fun _ => ?_)
  clear hK K
  refine wpAnyH_ready (rs := [16]) (by kernel_rfl) (by simp) ?_
  refine AllReadyH.cons rfl (fun K hK => ?_) AllReadyH.nil
  go_simp
  go_wp2_with ((go_at_call 171; refine (K4.out _ _ O0.out O1.out O2.out).mono ?_; rintro e w7 ⟨rfl, rfl⟩))
  refine hK.out _ _ hS (fun _ => ?_)
  clear hK K
  refine wpAnyH_take (i := 17) (v := ?vC17) rfl (by kernel_rfl) (by kernel_rfl) (by kernel_rfl) (fun _ _ _ h => h) (Or.inl ⟨by rfl, ?hyC17⟩) hS ?restC17
  case hyC17 =>
    intro w hSw
    first | (go_simp; done) | (go_simp; with_reducible rfl)
  try simp only [Act.put, List.setIfInBounds_toArray, List.set_cons_zero, List.set_cons_succ]
  refine wpAnyH_done (by kernel_rfl) ?_ _
  try simp only [List.getElem_toArray, List.getElem_cons_succ, List.getElem_cons_zero, List.set_cons_zero, List.set_cons_succ]
  have HF := Lib.hid (GR.grown ⟨HG.out.bel.trans (hS.bel.mono HG.out.bel.size), Nat.le_trans HG.out.dr hS.dr⟩)
  clear hS
  go_wp2
  go_ret
  exact ⟨rfl, HF.out⟩

theorem belowK {w W' : World} {g off B : Nat} {d : Array Dt} (S : SWK encDt 8 w g off d W') (hg : B ≤ g) (hB : B ≤ w.heap.size) : Below B w W' := by
  obtain ⟨n, os, rfl⟩ := S
  refine ⟨rfl, rfl, rfl, ?_, fun k hk => ?_⟩
  · unfold sortWorldK putRowK; simp
  · unfold sortWorldK putRowK
    rw [Go.Sort.heap_grow_old _ _ (by simp; omega)]
    have : g ≠ k := by omega
    simp [putRow, mapBlock, Sort.ahead, Array.getElem?_modify, this]
set_option maxRecDepth 100000 in
theorem sort_ok {L : List Dt} (h : L.length ≤ 160) : SortOK L := by
  by_cases h1 : L.length ≤ 1
  · exact sort_one h1
  intro B v w hO
  have hne : L ≠ [] := fun e => by rw [e] at h1; simp at h1
  obtain ⟨g, cap, rfl, hBg, hgs⟩ := hO.formG hne
  have hcell : ∀ i (hi : i < L.length) j u, (encDt L[i])[j]? = some u → w.cell? ⟨g, 0 + i * 8 + j, none⟩ = some u := fun i hi j u hu => by
    have h2 := hO.own.cells (g := g) rfl _ _ (cellsR_at rtD.len L i j L[i] u (List.getElem?_eq_getElem hi) hu)
    rw [Addr.add_lit] at h2
    simpa using h2
  have hH : HoldsK encDt 8 w g 0 L.toArray := by
    obtain ⟨cs, hcs⟩ := own_cells hO (k := g) rfl
    intro t ht
    rw [size_flatK] at ht
    simp only [List.size_toArray] at ht
    have hi : t / 8 < L.length := by omega
    have e1 : (flatK encDt 8 L.toArray)[t]! = (encDt L[t / 8])[t % 8]! := by
      rw [get_flatK _ _ _ _ (by simpa using ht)]
      congr 2
      rw [getElem!_pos _ _ (by simpa using hi)]
      simp
    have hm : t % 8 < (encDt L[t / 8]).length := by rw [rtD.len]; omega
    refine ⟨?_, frozen_of_row _ _ _ _ _ hcs⟩
    rw [e1, getElem!_pos (encDt L[t / 8]) (t % 8) hm]
    have h3 := hcell (t / 8) hi (t % 8) _ (List.getElem?_eq_getElem hm)
    rw [show 0 + t / 8 * 8 + t % 8 = 0 + t from by omega] at h3
    exact h3
  have R : RowK encDt 8 w g 0 L.toArray := ⟨rtD.len, rtD.one, hH, hgs⟩
  have hcmp : CmpLays Tryz.prog 92 #[] encDt 8 cmD g 0 L.toArray.size w := fun m os dk _ x y => cmpD_any x y _
  have C := sortStable_s cmD dtLt (fun _ _ => True) dtOrd 92 #[] g 0 cap L.toArray w (enters_of Tryz.func92 (by kernel_rfl) rfl) hcmp R (by simpa using h) (fun _ _ _ _ => trivial)
  simp only [List.size_toArray] at C
  refine C.mono fun e w' ⟨he, d', ⟨hp, hs⟩, hS⟩ => ⟨he, d'.toList, ?_, ?_, ?_, belowK hS hBg hO.base⟩
  · have h2 := hp.2.2
    have e1 : d'.extract 0 L.length = d' := by
      have := hp.1
      simp only [List.size_toArray] at this
      rw [← this]; exact Array.extract_size
    have e2 : L.toArray.extract 0 L.length = L.toArray := by
      have : L.length = L.toArray.size := by simp
      rw [this]; exact Array.extract_size
    rw [e1, e2] at h2
    simpa using h2
  · have hsz : d'.size = L.length := by have := hp.1; simpa using this
    intro i j x y hij hx hy
    have hjl := (List.getElem?_eq_some_iff.1 hy).1
    simp only [Array.length_toList] at hjl
    have h3 := hs i j (Nat.zero_le _) hij (by omega)
    rw [getElem!_pos d' j hjl, getElem!_pos d' i (show i < d'.size by omega)] at h3
    rw [Array.getElem?_toList, Array.getElem?_eq_getElem (by omega)] at hx hy
    cases hx
    cases hy
    exact h3
  · have hsz : d'.size = L.length := by have := hp.1; simpa using this
    refine ⟨some ⟨g, 0, none⟩, cap, by simp [hsz], .inr ⟨g, 0, rfl, hS.lt R.hblk, fun i x j u hi hu => ?_⟩⟩
    have hil := (List.getElem?_eq_some_iff.1 hi).1
    simp only [Array.length_toList] at hil
    exact dt_at hS R (by simp [hsz]) i hil j u (by
      rw [getElem!_pos d' i hil]
      rw [Array.getElem?_toList, Array.getElem?_eq_getElem hil] at hi
      cases hi
      exact hu)

end Go.Proofs.YtldillnjnjkkgaaGreatDoor

/- What the functions of timetables return where there are no violations. -/
namespace Go.Proofs.YtldillnjnjkkgaaGreatDoor
open Go.RowKit Go.Shelf
set_option linter.unusedSimpArgs false
set_option linter.unusedVariables false

abbrev sgX (s : Sg) : Array Value := #[.string s.car, .int .i64 s.num, .int .i64 s.day, .string s.f, .string s.t, .int .i64 s.dep, .int .i64 s.arr]
/-- a segment, or the error, the segment as one value -/
def SegX (s : Sg) (er : Int) (w : World) (e : Ending) (w' : World) : Prop := ∃ X, e = .returned (.tuple #[.agg X, .int .i64 er]) ∧ Hid (X = sgX s) ∧ Below w.heap.size w w'
theorem info_sg : (Tryz.prog.info? segT).map (·.size) = some 7 := by kernel_rfl
theorem store_sg {s : Sg} {X : Array Value} (hX : Hid (X = sgX s)) (w : World) :
    (storeCells ⟨w.heap.size, 0, none⟩ X.toList 0).run Tryz.prog (w.alloc (.cells #[.string noB, .int .i64 0, .int .i64 0, .string noB, .string noB, .int .i64 0, .int .i64 0] segT)) = .ok () (w.alloc (.cells X segT)) := by
  have e := hX.out
  subst e
  exact run_storeCells_new w segT _ _ info_sg rfl (by simp [Value.oneCell'])
theorem seg_x {p : PV} {v : Value} {fs : List FV} (h : ValT p fs) (car : ByteArray) (num day : Int) (fr tt : ByteArray) (w : World) (hL : AirL w p.A p.l) (hv : TblL w v fs) (h0 : -9223372036854775808 ≤ day) (h1 : day ≤ 9223372036854775807) :
    Calls Tryz.prog 28 #[encP p, v, .string car, .int .i64 num, .int .i64 day, .string fr, .string tt] w (SegX (segF p.l fs car num day fr tt).2 (segF p.l fs car num day fr tt).1 w) :=
  (seg_any p v fs car num day fr tt w h.okPl h.okT hL hv h0 h1).mono (by rintro e w' ⟨rfl, hb⟩; exact ⟨_, rfl, Lib.hid rfl, hb⟩)
theorem rseg_x {p : PV} {v : Value} {fs : List FV} (h : ValT p fs) (car : ByteArray) (num day : Int) (fr tt : ByteArray) (w : World) (hL : AirL w p.A p.l) (hv : TblL w v fs) (h0 : -9223372036854775808 ≤ day) (h1 : day ≤ 9223372036854775807) :
    Calls Tryz.prog 29 #[encP p, v, .string car, .int .i64 num, .int .i64 day, .string fr, .string tt] w (SegX (segF p.l fs car num day fr tt).2 (segF p.l fs car num day fr tt).1 w) :=
  (rseg8_any p v fs car num day fr tt w h.okPl h.okT hL hv h0 h1).mono (by rintro e w' ⟨rfl, hb⟩; exact ⟨_, rfl, Lib.hid rfl, hb⟩)
theorem day_x {p : PV} {v : Value} {fs : List FV} (h : ValT p fs) (day : Int) (w : World) (hL : AirL w p.A p.l) (hv : TblL w v fs) (h0 : -9223372036854775808 ≤ day) (h1 : day ≤ 9223372036854775807) :
    Calls Tryz.prog 31 #[encP p, v, .int .i64 day] w fun e w' => ∃ r, e = .returned r ∧ RowL 8 encDt w' r (insAll [] (dayF p.l fs day)) ∧ Below w.heap.size w w' :=
  (sday_any p v fs day w h.okPl h.okT hL hv h0 h1 (sort_ok (h.dayLen day))).mono (by
    rintro e w' ⟨r, L', rfl, hr, ⟨hp, hs⟩, hb⟩
    rw [h.sorted day hp hs] at hr
    exact ⟨r, rfl, hr, hb⟩)
theorem rday_x {p : PV} {v : Value} {fs : List FV} (h : ValT p fs) (day : Int) (w : World) (hL : AirL w p.A p.l) (hv : TblL w v fs) (h0 : -9223372036854775808 ≤ day) (h1 : day ≤ 9223372036854775807) :
    Calls Tryz.prog 32 #[encP p, v, .int .i64 day] w fun e w' => ∃ r, e = .returned r ∧ RowL 8 encDt w' r (insAll [] (dayF p.l fs day)) ∧ Below w.heap.size w w' :=
  rday8_any p v fs day w h.okPl h.okT hL hv (by have := h.sm.1; omega) h0 h1
theorem oper_x {p : PV} {v : Value} {fs : List FV} (h : ValT p fs) (s : Sg) (w : World) (hL : AirL w p.A p.l) (hv : TblL w v fs) (h0 : -9223372036854775808 ≤ s.day) (h1 : s.day ≤ 9223372036854775807) :
    Calls Tryz.prog 33 #[encP p, v, .agg (sgX s)] w fun e w' => e = .returned (.bool (operB p.l fs s)) ∧ Below w.heap.size w w' := operated_any p v fs s w h.okPl h.okT hL hv h0 h1
/-- a segment that was asked for is operated just if it was found -/
theorem ValT.found {p : PV} {fs : List FV} (h : ValT p fs) (car : ByteArray) (num day : Int) (fr tt : ByteArray) : operB p.l fs (segF p.l fs car num day fr tt).2 = ((segF p.l fs car num day fr tt).1 == 0) := by
  cases hb : ((segF p.l fs car num day fr tt).1 == 0) with
  | true => exact segF_oper (by simpa using hb)
  | false =>
    have hz : (segF p.l fs car num day fr tt).2 = sgZ := by
      cases ho : onF fs car num day with
      | none => rw [segF_none ho]
      | some f =>
        cases hs : (segsL (legF p.l f day)).find? (ftB fr tt) with
        | none => rw [segF_miss ho hs]
        | some s => rw [segF_hit ho hs] at hb; cases hb
    rw [hz]
    exact h.seg0
theorem segF_day {L : List Air} {fs : List FV} {car : ByteArray} {num day : Int} {fr tt : ByteArray} (h0 : -9223372036854775808 ≤ day) (h1 : day ≤ 9223372036854775807) : -9223372036854775808 ≤ (segF L fs car num day fr tt).2.day ∧ (segF L fs car num day fr tt).2.day ≤ 9223372036854775807 := by
  cases ho : onF fs car num day with
  | none => rw [segF_none ho]; exact ⟨by show (-9223372036854775808 : Int) ≤ 0; omega, by show (0 : Int) ≤ _; omega⟩
  | some f =>
    cases hs : (segsL (legF L f day)).find? (ftB fr tt) with
    | none => rw [segF_miss ho hs]; exact ⟨by show (-9223372036854775808 : Int) ≤ 0; omega, by show (0 : Int) ≤ _; omega⟩
    | some s =>
      rw [segF_hit ho hs]
      obtain ⟨x, hx, y, hy, e⟩ := segsI_mem (List.mem_of_find?_eq_some hs)
      obtain ⟨_, _, _, d1⟩ := legF_mem hx
      have e3 : s.day = day := by rw [e]; exact d1
      show _ ≤ s.day ∧ s.day ≤ _
      rw [e3]
      exact ⟨h0, h1⟩

end Go.Proofs.YtldillnjnjkkgaaGreatDoor
