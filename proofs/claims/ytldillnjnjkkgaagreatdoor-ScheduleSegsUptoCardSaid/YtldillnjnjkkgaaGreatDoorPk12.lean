/- Words and walks that the laws below ask: SchN, SchK, FliN, FliO, SchL. -/
import Derived.Deep.LoopGhost
import Derived.Test.YtldillnjnjkkgaaGreatDoorPk2
import Derived.Test.YtldillnjnjkkgaaGreatDoorPk3
import Derived.Test.YtldillnjnjkkgaaGreatDoorPk4
import Derived.Test.YtldillnjnjkkgaaGreatDoorPk5
import Derived.Test.YtldillnjnjkkgaaGreatDoorPk8
import Derived.Test.YtldillnjnjkkgaaGreatDoorPk10
import Derived.Test.YtldillnjnjkkgaaGreatDoorPk11
/- Walks of the reference's Big of timetables. -/
namespace Go.Proofs.YtldillnjnjkkgaaGreatDoor
open Go.RowKit Go.Shelf
set_option linter.unusedSimpArgs false
set_option linter.unusedVariables false

/-- no places -/
def pZ : PV := ⟨none, 0, [], none, 0, []⟩
/-- what is known of a timetable that is not big -/
def SmallT (p : PV) (fs : List FV) : Prop := fs.length ≤ 12 ∧ ∀ f ∈ fs, f.lg.length ≤ 12 ∧ p.l.length ≤ 20 ∧ p.ds.length ≤ 40
set_option maxRecDepth 100000 in
set_option maxHeartbeats 4000000 in
theorem big8_any (p : PV) (v : Value) (fs : List FV) (w : World) (hv : TblL w v fs) (hlen : fs.length < 9223372036854775808) (hg : ∀ f ∈ fs, f.lg.length < 9223372036854775808) (h1 : p.l.length < 9223372036854775808) (h2 : p.ds.length < 9223372036854775808) :
    Calls Tryz.prog 36 #[encP p, v] w fun e w' => ∃ r : Value, e = .returned r ∧ Hid (r = .bool true ∨ (r = .bool false ∧ SmallT p fs)) ∧ Below w.heap.size w w' := by
  obtain ⟨A, c, rfl, hvc⟩ := id hv.row
  have hb1 := bel_alloc w (.cells #[.slice p.A p.l.length p.ca, .slice p.D p.ds.length p.cd] placesT)
  have p0 := (cells_new w #[.slice p.A p.l.length p.ca, .slice p.D p.ds.length p.cd] placesT 0).trans (show _ = some (Value.slice p.A p.l.length p.ca) from rfl)
  have p1 := (cells_new w #[.slice p.A p.l.length p.ca, .slice p.D p.ds.length p.cd] placesT 1).trans (show _ = some (Value.slice p.D p.ds.length p.cd) from rfl)
  have HV := Lib.hid (hv.more hb1)
  have HG := Lib.hid hg
  clear hv hvc hg
  go_enter Tryz.func36, Tryz.ntmps36
  go_wp2
  generalize hw5 : w.alloc (.cells #[.slice p.A p.l.length p.ca, .slice p.D p.ds.length p.cd] placesT) = w5 at *
  clear hw5
  have y0 := bel_get p0
  have y1 := bel_get p1
  clear p0 p1
  go_loopw [5] (fun vi wr => ∃ k : Nat, k ≤ fs.length ∧ k ≤ 20 ∧ vi = .int .i64 k ∧ Hid (∀ (j : Nat) (f : FV), j < k → fs[j]? = some f → f.lg.length ≤ 12 ∧ p.l.length ≤ 20 ∧ p.ds.length ≤ 40) ∧ SW w5 wr) (fun vi _ => fs.length - (intOf vi).toNat)
  case atStart => exact ⟨0, Nat.zero_le _, by omega, rfl, Lib.hid (fun j f h => by omega), Below.refl _ _⟩
  case round =>
    obtain ⟨k, hk, hk20, rfl, HK, hS⟩ := hrel
    by_cases hlt : k < fs.length
    · have i1 : (k : Int) < (fs.length : Int) := by omega
      by_cases h20 : k < 20
      · obtain ⟨f, hf⟩ : ∃ f, fs[k]? = some f := ⟨_, List.getElem?_eq_getElem hlt⟩
        have hfm := List.mem_of_getElem? hf
        have hvk := HV.out.more hS
        obtain ⟨b, o, e1, hbl, hc⟩ := RowL.at6 hvk.row hf
        cases e1
        have i2 : (k : Int) < 20 := by omega
        have d0 := hc 0 _ rfl
        have d1 := hc 1 _ rfl
        have d2 := hc 2 _ rfl
        have d3 := hc 3 _ rfl
        have d4 := hc 4 _ rfl
        have d5 := hc 5 _ rfl
        rw [Nat.add_zero] at d0
        have g0 := bel_get d0
        have g1 := bel_get d1
        have g2 := bel_get d2
        have g3 := bel_get d3
        have g4 := bel_get d4
        have g5 := bel_get d5
        have KB : Hid (∀ W, SW wr W → Calls Tryz.prog 14 #[encP p, encFl f] W fun e w' => ∃ v : Value, e = .returned v ∧ Hid (v = .bool true ∨ (v = .bool false ∧ f.lg.length ≤ 12 ∧ p.l.length ≤ 20 ∧ p.ds.length ≤ 40)) ∧ SW wr w') := Lib.hid (fun W h => (big_any p f W ((hvk.legs f hfm).more h) (HG.out f hfm) h1 h2).mono (by
          rintro e w' ⟨v, rfl, hv, hb⟩
          exact ⟨v, rfl, hv, Below.trans h (Below.mono hb h.size)⟩))
        have z0 : ∀ W, SW wr W → W.cell? ⟨w.heap.size, 0, none⟩ = some (.slice p.A p.l.length p.ca) := fun W h => y0 W (Below.trans hS (Below.mono h hS.size))
        have z1 : ∀ W, SW wr W → W.cell? ⟨w.heap.size, 1, none⟩ = some (.slice p.D p.ds.length p.cd) := fun W h => y1 W (Below.trans hS (Below.mono h hS.size))
        have HF := Lib.hid hf
        have HSr := Lib.hid hS
        clear hc d0 d1 d2 d3 d4 d5 hf hfm hbl hvk hS
        go_upto_region 4 with fail
        have hS : (SW wr) _ := SW.drew _
        refine wp_region_held_drew (S := SW wr) (by kernel_rfl) hS (fun _ => ?_)
        refine wpAnyH_take (i := 0) (v := ?vB0) rfl (by kernel_rfl) (by kernel_rfl) (by kernel_rfl) (fun _ _ _ h => h) (Or.inl ⟨by rfl, ?hyB0⟩) hS ?restB0
        case hyB0 =>
          intro w hSw
          have k0 := z0 w hSw; have k1 := z1 w hSw; have k2 := g0 w hSw; have k3 := g1 w hSw; have k4 := g2 w hSw; have k5 := g3 w hSw; have k6 := g4 w hSw; have k7 := g5 w hSw
          first | (go_simp; done) | (go_simp; with_reducible rfl)
        try simp only [Act.put, List.setIfInBounds_toArray, List.set_cons_zero, List.set_cons_succ]
        refine wpAnyH_take (i := 1) (v := ?vB1) rfl (by kernel_rfl) (by kernel_rfl) (by kernel_rfl) (fun _ _ _ h => h) (Or.inl ⟨by rfl, ?hyB1⟩) hS ?restB1
        case hyB1 =>
          intro w hSw
          first | (go_simp; done) | (go_simp; with_reducible rfl)
        try simp only [Act.put, List.setIfInBounds_toArray, List.set_cons_zero, List.set_cons_succ]
        refine wpAnyH_take (i := 2) (v := ?vB2) rfl (by kernel_rfl) (by kernel_rfl) (by kernel_rfl) (fun _ _ _ h => h) (Or.inl ⟨by rfl, ?hyB2⟩) hS ?restB2
        case hyB2 =>
          intro w hSw
          first | (go_simp; done) | (go_simp; with_reducible rfl)
        try simp only [Act.put, List.setIfInBounds_toArray, List.set_cons_zero, List.set_cons_succ]
        refine wpAnyH_take (i := 3) (v := ?vB3) rfl (by kernel_rfl) (by kernel_rfl) (by kernel_rfl) (fun _ _ _ h => h) (Or.inl ⟨by rfl, ?hyB3⟩) hS ?restB3
        case hyB3 =>
          intro w hSw
          have k0 := z0 w hSw; have k1 := z1 w hSw; have k2 := g0 w hSw; have k3 := g1 w hSw; have k4 := g2 w hSw; have k5 := g3 w hSw; have k6 := g4 w hSw; have k7 := g5 w hSw
          first | (go_simp; done) | (go_simp; with_reducible rfl)
        try simp only [Act.put, List.setIfInBounds_toArray, List.set_cons_zero, List.set_cons_succ]
        refine wpAnyH_take (i := 4) (v := ?vB4) rfl (by kernel_rfl) (by kernel_rfl) (by kernel_rfl) (fun _ _ _ h => h) (Or.inl ⟨by rfl, ?hyB4⟩) hS ?restB4
        case hyB4 =>
          intro w hSw
          have k0 := z0 w hSw; have k1 := z1 w hSw; have k2 := g0 w hSw; have k3 := g1 w hSw; have k4 := g2 w hSw; have k5 := g3 w hSw; have k6 := g4 w hSw; have k7 := g5 w hSw
          first | (go_simp; done) | (go_simp; with_reducible rfl)
        try simp only [Act.put, List.setIfInBounds_toArray, List.set_cons_zero, List.set_cons_succ]
        refine wpAnyH_ready (rs := [5]) (by kernel_rfl) (by simp) ?_
        refine AllReadyH.cons rfl (fun K hK => ?_) AllReadyH.nil
        go_simp
        go_wp2_with ((go_at_call 14; refine (KB.out _ hS).mono ?_; rintro e w7 ⟨v7, rfl, hv7, hS⟩))
        refine hK.out _ _ hS (fun _ => ?_)
        clear hK K
        refine wpAnyH_done (by kernel_rfl) ?_ _
        try simp only [List.getElem_toArray, List.getElem_cons_succ, List.getElem_cons_zero, List.set_cons_zero, List.set_cons_succ]
        have hS5 : SW w5 w7 := Below.trans HSr.out (Below.mono hS HSr.out.size)
        rcases hv7.out with rfl | ⟨rfl, b12, b20, b40⟩
        · clear hv7
          go_wp2
          go_ret
          exact ⟨.bool true, rfl, Lib.hid (Or.inl rfl), hb1.trans (Below.mono hS5 hb1.size)⟩
        · have HK2 : Hid (∀ (j : Nat) (f : FV), j < k + 1 → fs[j]? = some f → f.lg.length ≤ 12 ∧ p.l.length ≤ 20 ∧ p.ds.length ≤ 40) := Lib.hid (fun j g hj hg => by
            by_cases e : j = k
            · subst e; rw [HF.out] at hg; cases hg; exact ⟨b12, b20, b40⟩
            · exact HK.out j g (by omega) hg)
          clear hv7 b12 b20 b40
          go_wp2
          go_roundw
          case rel => exact ⟨k + 1, by omega, by omega, by go_num, HK2, hS5⟩
          case measure => simp [intOf]; omega
      · have i2 : ¬ (k : Int) < 20 := by omega
        have g1 : (12 : Int) < (fs.length : Int) := by omega
        go_wp2
        go_ret
        exact ⟨_, rfl, Lib.hid (Or.inl (by simp [g1])), hb1.trans (Below.mono hS hb1.size)⟩
    · have i1 : ¬ (k : Int) < (fs.length : Int) := by omega
      have hk2 : k = fs.length := by omega
      have HSm : Hid (fs.length ≤ 12 → SmallT p fs) := Lib.hid (fun h => ⟨h, fun f hf => by obtain ⟨j, hj⟩ := List.getElem?_of_mem hf; exact HK.out j f (by have := (List.getElem?_eq_some_iff.1 hj).1; omega) hj⟩)
      by_cases g1 : (12 : Int) < (fs.length : Int)
      · go_wp2
        go_ret
        exact ⟨_, rfl, Lib.hid (Or.inl (by simp [g1])), hb1.trans (Below.mono hS hb1.size)⟩
      · go_wp2
        go_ret
        exact ⟨_, rfl, Lib.hid (Or.inr ⟨by simp [g1], HSm.out (by omega)⟩), hb1.trans (Below.mono hS hb1.size)⟩

end Go.Proofs.YtldillnjnjkkgaaGreatDoor

/- The order of legs; walk of Day, whatever the sort is known to do; the sort of at most one leg. -/
namespace Go.Proofs.YtldillnjnjkkgaaGreatDoor
open Go.RowKit Go.Shelf
set_option linter.unusedSimpArgs false
set_option linter.unusedVariables false

/-- whether a leg comes before another one -/
def dtLt (a b : Dt) : Bool := decide (a.dep < b.dep) || (decide (a.dep = b.dep) && (Op.bytesLess a.car.toList b.car.toList || (decide (a.car = b.car) && decide (a.num < b.num))))
def SortedD (L : List Dt) : Prop := ∀ (i j : Nat) (x y : Dt), i < j → L[i]? = some x → L[j]? = some y → dtLt y x = false
/-- the library's stable sort leaves the legs L in their order -/
def SortOK (L : List Dt) : Prop := ∀ (B : Nat) (v : Value) (w : World), ROwn datT 8 encDt B w v L → Calls Tryz.prog 91 #[v, .func (.func 92) #[] #[]] w fun e w' => e = .returned (.tuple #[]) ∧ ∃ L', L'.Perm L ∧ SortedD L' ∧ RowL 8 encDt w' v L' ∧ Below B w w'
/-- the legs of a day, flight by flight -/
def dayF (l : List Air) (fs : List FV) (day : Int) : List Dt := fs.flatMap fun f => legF l f day
theorem dayF_take (l : List Air) (fs : List FV) (day : Int) {k : Nat} {f : FV} (h : fs[k]? = some f) : dayF l (fs.take (k + 1)) day = dayF l (fs.take k) day ++ legF l f day := by
  obtain ⟨hk, rfl⟩ := List.getElem?_eq_some_iff.1 h
  unfold dayF
  rw [show fs.take (k + 1) = fs.take k ++ [fs[k]] from (List.take_append_getElem hk).symm, List.flatMap_append, List.flatMap_cons, List.flatMap_nil, List.append_nil]
theorem legF_le (l : List Air) (f : FV) (day : Int) (h : f.lg.length ≤ 100) : (legF l f day).length ≤ 100 := by
  unfold legF
  split
  · rw [List.length_map]; exact h
  · simp
theorem dayF_le (l : List Air) (fs : List FV) (day : Int) (h : ∀ f ∈ fs, f.lg.length ≤ 100) : ∀ k, (dayF l (fs.take k) day).length ≤ 100 * k
  | 0 => by simp [dayF]
  | k + 1 => by
    have ih := dayF_le l fs day h k
    cases hf : fs[k]? with
    | none =>
      have e : fs.take (k + 1) = fs.take k := by
        have := List.getElem?_eq_none_iff.1 hf
        rw [List.take_of_length_le (by omega), List.take_of_length_le this]
      rw [e]; omega
    | some f =>
      rw [dayF_take l fs day hf, List.length_append]
      have := legF_le l f day (h f (List.mem_of_getElem? hf))
      omega
theorem sorted_one {L : List Dt} (h : L.length ≤ 1) : SortedD L := fun i j x y hij hx hy => by
  have := (List.getElem?_eq_some_iff.1 hy).1
  omega

set_option maxRecDepth 100000 in
set_option maxHeartbeats 4000000 in
theorem ins_one (v : Value) (n : Int) (fv : Value) (w : World) (hn : n ≤ 1) (hn0 : 0 ≤ n) : Calls Tryz.prog 221 #[v, .int .i64 0, .int .i64 n, fv] w fun e w' => e = .returned (.tuple #[]) ∧ w = w' := by
  have h1 : ¬ (1 : Int) < n := by omega
  have h2 : decide ((1 : Int) < n) = false := decide_eq_false h1
  go_enter Tryz.func221, Tryz.ntmps221
  go_wp2
  go_loopg [8] 1 (fun g vi wr => vi = .int .i64 1 ∧ wr = w)
  case atStart => exact ⟨by go_num, rfl⟩
  case round =>
    obtain ⟨rfl, rfl⟩ := hrel
    go_wp2
    go_end0
    exact ⟨rfl, rfl⟩
set_option maxRecDepth 100000 in
set_option maxHeartbeats 4000000 in
theorem stab_one (v : Value) (n : Int) (fv : Value) (w : World) (hn : n ≤ 1) (hn0 : 0 ≤ n) : Calls Tryz.prog 170 #[v, .int .i64 n, fv] w fun e w' => e = .returned (.tuple #[]) ∧ w = w' := by
  have h1 : ¬ (20 : Int) ≤ n := by omega
  have h2 : ¬ (20 : Int) < n := by omega
  have KI := Lib.hid (ins_one v n fv w hn hn0)
  go_enter Tryz.func170, Tryz.ntmps170
  go_wp2
  go_loopg [7, 8] 1 (fun g va vb wr => va = .int .i64 0 ∧ vb = .int .i64 20 ∧ wr = w)
  case atStart => exact ⟨rfl, rfl, rfl⟩
  case round =>
    obtain ⟨rfl, rfl, rfl⟩ := hrel
    go_wp2_with (go_at_call 221; refine KI.out.mono ?_; rintro e w' ⟨rfl, rfl⟩)
    go_loopg [6] 1 (fun g vb wq => vb = .int .i64 20 ∧ wq = wr)
    case atStart => exact ⟨rfl, rfl⟩
    case round =>
      obtain ⟨rfl, rfl⟩ := hrel
      go_wp2
      go_end0
      exact ⟨rfl, rfl⟩
set_option maxRecDepth 100000 in
set_option maxHeartbeats 4000000 in
theorem sort_one {L : List Dt} (h : L.length ≤ 1) : SortOK L := by
  intro B v w hO
  obtain ⟨A, c, rfl, _⟩ := id (hO.rowL rtD.len)
  have KS := Lib.hid (stab_one (.slice A L.length c) (L.length : Int) (.func (.func 92) #[] #[]) w (by omega) (by omega))
  have HO := Lib.hid hO
  clear hO
  go_enter Tryz.func91, Tryz.ntmps91
  go_wp2_with (go_at_call 170; refine KS.out.mono ?_; rintro e w' ⟨rfl, rfl⟩)
  go_end0
  exact ⟨rfl, L, List.Perm.refl _, sorted_one h, HO.out.rowL rtD.len, Below.refl _ _⟩

set_option maxRecDepth 100000 in
set_option maxHeartbeats 8000000 in
theorem sday_any (p : PV) (v : Value) (fs : List FV) (day : Int) (w : World) (op : fs ≠ [] → OkPl p) (ot : OkT fs) (hL : AirL w p.A p.l) (hv : TblL w v fs) (h0 : -9223372036854775808 ≤ day) (h1 : day ≤ 9223372036854775807) (hs : SortOK (dayF p.l fs day)) :
    Calls Tryz.prog 31 #[encP p, v, .int .i64 day] w fun e w' => ∃ r L', e = .returned r ∧ RowL 8 encDt w' r L' ∧ (L'.Perm (dayF p.l fs day) ∧ SortedD L') ∧ Below w.heap.size w w' := by
  obtain ⟨A, c, rfl, _⟩ := id hv.row
  have hb1 := bel_alloc w (.cells #[.slice p.A p.l.length p.ca, .slice p.D p.ds.length p.cd] placesT)
  have p0 := (cells_new w #[.slice p.A p.l.length p.ca, .slice p.D p.ds.length p.cd] placesT 0).trans (show _ = some (Value.slice p.A p.l.length p.ca) from rfl)
  have p1 := (cells_new w #[.slice p.A p.l.length p.ca, .slice p.D p.ds.length p.cd] placesT 1).trans (show _ = some (Value.slice p.D p.ds.length p.cd) from rfl)
  have HV := Lib.hid (hv.more hb1)
  have HL := Lib.hid (hL.more hb1)
  have HB1 := Lib.hid hb1
  have HOT := Lib.hid ot
  have HSO := Lib.hid hs
  have hln := ot.len
  have KS := Lib.hid (fun (gm : fs ≠ []) (f : FV) W (g1 : AirL W p.A p.l) (g2 : LegL W (.slice f.A f.lg.length f.c) f.lg) (g3 : f.lg.length ≤ 100) (g4 : ∀ x ∈ f.lg, (-1000000 ≤ x.dep ∧ x.dep ≤ 1000000) ∧ -1000000 ≤ x.arr ∧ x.arr ≤ 1000000) => legs_any p f day W (op gm).la g1 (op gm).sh (op gm).oz g2 g3 g4 h0 h1)
  have HDL := Lib.hid (dayF_le p.l fs day ot.lg)
  clear hv ot hL hs hb1 op
  go_enter Tryz.func31, Tryz.ntmps31
  go_upto_region 1 with fail
  generalize hw1 : w.alloc (.cells #[.slice p.A p.l.length p.ca, .slice p.D p.ds.length p.cd] placesT) = w1 at *
  clear hw1
  have F0 := Lib.hid (bel_get p0)
  have F1 := Lib.hid (bel_get p1)
  clear p0 p1
  go_wp2
  go_loopw [7, 14] (fun s0 vi wr => ∃ k : Nat, k ≤ fs.length ∧ vi = .int .i64 k ∧ Hid (ROwn datT 8 encDt w1.heap.size wr s0 (dayF p.l (fs.take k) day) ∧ Below w1.heap.size w1 wr)) (fun _ vi _ => fs.length - (intOf vi).toNat)
  case atStart => exact ⟨0, Nat.zero_le _, rfl, Lib.hid ⟨ROwn.nil (Nat.le_refl _), Below.refl _ _⟩⟩
  case round =>
    obtain ⟨k, hk, rfl, HK⟩ := hrel
    obtain ⟨hO, hbk⟩ := HK.out
    by_cases hlt : k < fs.length
    · obtain ⟨f, hf⟩ : ∃ f, fs[k]? = some f := ⟨_, List.getElem?_eq_getElem hlt⟩
      have hfm := List.mem_of_getElem? hf
      have hvk := HV.out.more hbk
      obtain ⟨b, o, e1, hbl, hc⟩ := RowL.at6 hvk.row hf
      cases e1
      have i2 : (k : Int) < (fs.length : Int) := by omega
      have d0 := hc 0 _ rfl
      have d1 := hc 1 _ rfl
      have d2 := hc 2 _ rfl
      have d3 := hc 3 _ rfl
      have d4 := hc 4 _ rfl
      have d5 := hc 5 _ rfl
      rw [Nat.add_zero] at d0
      have HDT := Lib.hid (dayF_take p.l fs day hf)
      have hb8 := bel_alloc wr (.cells #[.string f.car, .int .i64 f.num, .int .i64 f.pf, .int .i64 f.pt, .int .i64 f.pd, .slice f.A f.lg.length f.c] fliT)
      have n0 := (cells_new wr #[.string f.car, .int .i64 f.num, .int .i64 f.pf, .int .i64 f.pt, .int .i64 f.pd, .slice f.A f.lg.length f.c] fliT 0).trans (show _ = some (Value.string f.car) from rfl)
      have n1 := (cells_new wr #[.string f.car, .int .i64 f.num, .int .i64 f.pf, .int .i64 f.pt, .int .i64 f.pd, .slice f.A f.lg.length f.c] fliT 1).trans (show _ = some (Value.int .i64 f.num) from rfl)
      have n2 := (cells_new wr #[.string f.car, .int .i64 f.num, .int .i64 f.pf, .int .i64 f.pt, .int .i64 f.pd, .slice f.A f.lg.length f.c] fliT 2).trans (show _ = some (Value.int .i64 f.pf) from rfl)
      have n3 := (cells_new wr #[.string f.car, .int .i64 f.num, .int .i64 f.pf, .int .i64 f.pt, .int .i64 f.pd, .slice f.A f.lg.length f.c] fliT 3).trans (show _ = some (Value.int .i64 f.pt) from rfl)
      have n4 := (cells_new wr #[.string f.car, .int .i64 f.num, .int .i64 f.pf, .int .i64 f.pt, .int .i64 f.pd, .slice f.A f.lg.length f.c] fliT 4).trans (show _ = some (Value.int .i64 f.pd) from rfl)
      have n5 := (cells_new wr #[.string f.car, .int .i64 f.num, .int .i64 f.pf, .int .i64 f.pt, .int .i64 f.pd, .slice f.A f.lg.length f.c] fliT 5).trans (show _ = some (Value.slice f.A f.lg.length f.c) from rfl)
      have hO := hO.more hb8
      have hbk := hbk.trans (hb8.mono hbk.size)
      go_upto_region 5 with fail
      generalize hw8 : wr.alloc (.cells #[.string f.car, .int .i64 f.num, .int .i64 f.pf, .int .i64 f.pt, .int .i64 f.pd, .slice f.A f.lg.length f.c] fliT) = w8 at *
      clear hw8 d0 d1 d2 d3 d4 d5
      have y0 := F0.out _ hbk
      have y1 := F1.out _ hbk
      have KS2 := Lib.hid (KS.out (List.ne_nil_of_mem hfm) f w8 (HL.out.more hbk) ((HV.out.more hbk).legs f hfm) (HOT.out.lg f hfm) (HOT.out.hm f hfm))
      have HLG : Hid ((legF p.l f day).length ≤ 100) := Lib.hid (legF_le _ _ _ (HOT.out.lg f hfm))
      have HO := Lib.hid hO
      have HBK := Lib.hid hbk
      have HDk := Lib.hid (HDL.out k)
      obtain ⟨M, hM⟩ : ∃ M, M = legF p.l f day := ⟨_, rfl⟩
      have HME : Hid (Per.hasQ (f.pf, f.pt, f.pd) day = false → M = []) := Lib.hid (fun h => by rw [hM]; unfold legF; rw [h]; rfl)
      rw [← hM] at KS2 HDT HLG
      clear hM hf hfm hc hvk hbl hO hbk HK hb8
      cases hq : Per.hasQ (f.pf, f.pt, f.pd) day with
      | false =>
        have he : legE f day = 12 := by unfold legE; rw [hq]; rfl
        have HME2 := Lib.hid (HME.out hq)
        rw [he] at KS2
        clear he hq HME
        go_wp2_with (go_at_call 35; refine KS2.out.mono ?_; rintro e w9 ⟨v9, rfl, hO9, hb9⟩)
        go_roundw
        case rel => exact ⟨k + 1, by omega, by go_num, Lib.hid ⟨by rw [HDT.out, HME2.out, List.append_nil]; exact HO.out.more hb9, HBK.out.trans (hb9.mono HBK.out.size)⟩⟩
        case measure => simp [intOf]; omega
      | true =>
        have he : legE f day = 0 := by unfold legE; rw [hq]; rfl
        rw [he] at KS2
        clear he hq HME
        have hlim : ∀ n, n ≤ 100 * k → n + M.length ≤ 100000000 := fun n hn => by have := HLG.out; omega
        go_wp2_with (first
          | (at_builtin; refine wpList_rappl rtD rfl _ _ rfl hO10 rfl M _ rfl hM9 (hlim _ HDk.out) ?_; intro v10 w10 hO11 hC11)
          | (go_at_call 35; refine KS2.out.mono ?_; rintro e w9 ⟨v9, rfl, hO9, hb9⟩; have hM9 := hO9.rowL rtD.len; have hO10 := HO.out.more hb9))
        go_roundw
        case rel => exact ⟨k + 1, by omega, by go_num, Lib.hid ⟨by rw [HDT.out]; exact hO11, (HBK.out.trans (hb9.mono HBK.out.size)).trans (hC11.below hO10)⟩⟩
        case measure => simp [intOf]; omega
    · have hk' : k = fs.length := by omega
      have i2 : ¬ (k : Int) < (fs.length : Int) := by omega
      rw [hk', List.take_length] at hO
      have HSR := Lib.hid (HSO.out _ _ _ hO)
      have HB2 := Lib.hid (HB1.out.trans (hbk.mono HB1.out.size))
      clear hk' hO hbk HK
      go_wp2_with (go_at_call 91; refine HSR.out.mono ?_; rintro e w9 ⟨rfl, L', hp, hsd, hO9, hb9⟩)
      go_ret
      exact ⟨_, L', rfl, hO9, ⟨hp, hsd⟩, HB2.out.trans (hb9.mono HB1.out.size)⟩

end Go.Proofs.YtldillnjnjkkgaaGreatDoor

/- Walk of flight.Print. -/
namespace Go.Proofs.YtldillnjnjkkgaaGreatDoor
open Go.RowKit Go.Shelf
set_option linter.unusedSimpArgs false
set_option linter.unusedVariables false

theorem five_cells (w : World) (a b c d e : ByteArray) (t : TypeId) (i : Nat) (y : ByteArray) (j : Nat) (u : Value) (hi : [a, b, c, d, e][i]? = some y) (hu : (encS y)[j]? = some u) :
    (w.alloc (.cells #[.string a, .string b, .string c, .string d, .string e] t)).cell? ⟨w.heap.size, 0 + i * 1 + j, none⟩ = some u := by
  have hj : j = 0 := by
    have := (List.getElem?_eq_some_iff.1 hu).1
    simp [encS] at this
    exact this
  subst hj
  simp [encS] at hu
  subst hu
  have hlt := (List.getElem?_eq_some_iff.1 hi).1
  simp at hlt
  rw [cells_new]
  have h5 : i = 0 ∨ i = 1 ∨ i = 2 ∨ i = 3 ∨ i = 4 := by omega
  rcases h5 with rfl | rfl | rfl | rfl | rfl <;> (simp at hi; subst hi; rfl)

set_option maxRecDepth 100000 in
set_option maxHeartbeats 8000000 in
theorem fprint_any (f : FV) (w : World) (hE : EnvP w) (hG : LegL w (.slice f.A f.lg.length f.c) f.lg) (hc0 : f.car.size ≤ maxLen) (ho : ∀ x ∈ f.lg, OkG x) (hn : f.lg.length ≤ 1000000) :
    Calls Tryz.prog 16 #[encFl f] w fun e w' => e = .returned (.tuple #[.string (prS f), .int .i64 (prE f)]) ∧ Below w.heap.size w w' := by
  obtain ⟨PW, hPW⟩ : ∃ P : Nat → List ByteArray, P = fun k => prW f k := ⟨_, rfl⟩
  have HSU : Hid (∀ k x, f.lg[k]? = some x → PW (k + 1) = PW k ++ [x.f, x.t, decT x.dep, decT x.arr, x.eq]) := Lib.hid (by rw [hPW]; exact fun k x h => prW_succ h)
  have HLE : Hid (∀ k, (PW k).length ≤ 3 + k * 5) := Lib.hid (by rw [hPW]; exact fun k => prW_len f k)
  have HP := Lib.hid (show prS f = if prE f = 0 then prT f else noB from rfl)
  have HZ : Hid (prE f = 0 → ((bytesOf (PW f.lg.length)).map List.length).sum ≤ 2000 ∧ f.lg.length ≤ 6 ∧ (∀ x ∈ f.lg, -1440 ≤ x.dep ∧ x.dep ≤ 5759 ∧ -1440 ≤ x.arr ∧ x.arr ≤ 5759) ∧ 1 ≤ f.num ∧ f.num ≤ 9999) := Lib.hid (fun h => by
    obtain ⟨_, h2, _, h4, h5⟩ := prE_zero h
    refine ⟨by rw [hPW]; exact prW_sum h, (cnt_bd h4).2, fun x hx => ?_, num_bd h2⟩
    have := (lgE_all h5 x hx).2
    simp only [timB, Bool.and_eq_true] at this
    have h6 := min_bd this.1
    have h7 := min_bd this.2
    omega)
  have HPT : Hid (prT f = ⟨(joinL (bytesOf (PW f.lg.length))).toArray⟩) := Lib.hid (by rw [hPW]; rfl)
  have HW0 : Hid (PW 0 = [f.car, decT f.num, perT f]) := Lib.hid (by rw [hPW]; simp [prW])
  have KC0 := Lib.hid (fun W hG => checkPrint_any f W hG hc0 ho hn)
  have hpt := Per.pprint_any f.pf f.pt f.pd
  have hpe : (⟨(Per.perL (f.pf, f.pt, f.pd)).toArray⟩ : ByteArray) = perT f := rfl
  rw [hpe] at hpt
  have KPP := Lib.hid hpt
  clear hPW hpt hpe
  generalize prE f = pe at *
  generalize prS f = ps at *
  generalize prT f = pT at *
  generalize perT f = sp at *
  obtain ⟨car, num, pf, pt, pd, A, c, lg⟩ := f
  dsimp only at *
  have hb0 := bel_alloc w (.cells #[.string car, .int .i64 num, .int .i64 pf, .int .i64 pt, .int .i64 pd, .slice A lg.length c] fliT)
  have q0 := (cells_new w #[.string car, .int .i64 num, .int .i64 pf, .int .i64 pt, .int .i64 pd, .slice A lg.length c] fliT 0).trans (show _ = some (.string car) from rfl)
  have q1 := (cells_new w #[.string car, .int .i64 num, .int .i64 pf, .int .i64 pt, .int .i64 pd, .slice A lg.length c] fliT 1).trans (show _ = some (.int .i64 num) from rfl)
  have q2 := (cells_new w #[.string car, .int .i64 num, .int .i64 pf, .int .i64 pt, .int .i64 pd, .slice A lg.length c] fliT 2).trans (show _ = some (.int .i64 pf) from rfl)
  have q3 := (cells_new w #[.string car, .int .i64 num, .int .i64 pf, .int .i64 pt, .int .i64 pd, .slice A lg.length c] fliT 3).trans (show _ = some (.int .i64 pt) from rfl)
  have q4 := (cells_new w #[.string car, .int .i64 num, .int .i64 pf, .int .i64 pt, .int .i64 pd, .slice A lg.length c] fliT 4).trans (show _ = some (.int .i64 pd) from rfl)
  have q5 := (cells_new w #[.string car, .int .i64 num, .int .i64 pf, .int .i64 pt, .int .i64 pd, .slice A lg.length c] fliT 5).trans (show _ = some (.slice A lg.length c) from rfl)
  have KC := Lib.hid (KC0.out _ (hG.more hb0))
  have HG := Lib.hid (hG.more hb0)
  have HE := Lib.hid (hE.more hb0)
  clear hG ho hc0 hE KC0
  cases hpe : (pe != 0) with
  | true =>
    have HR : Hid (ps = noB) := Lib.hid (by rw [HP.out, if_neg (by simpa using hpe)])
    go_enter Tryz.func16, Tryz.ntmps16
    go_wp2_with (go_at_call 55; refine KC.out.mono ?_; rintro e w1 ⟨rfl, hb1⟩)
    exact bodyPost_ret (results_tmp2 rfl _ _ _) rfl ⟨by rw [HR.out]; rfl, hb0.trans (Below.mono hb1 hb0.size)⟩
  | false =>
    have h0 : pe = 0 := by simpa using hpe
    subst h0
    have HR : Hid (ps = pT) := Lib.hid (by rw [HP.out, if_pos rfl])
    have hz := HZ.out rfl
    have HS := Lib.hid hz.1
    have HB := Lib.hid hz.2.2.1
    have h6 := hz.2.1
    have KD1 : Hid (∀ W, SW (w.alloc (.cells #[.string car, .int .i64 num, .int .i64 pf, .int .i64 pt, .int .i64 pd, .slice A lg.length c] fliT)) W → Calls Tryz.prog 56 #[.int .i64 num] W fun e w' => e = .returned (.string (decT num)) ∧ SW (w.alloc (.cells #[.string car, .int .i64 num, .int .i64 pf, .int .i64 pt, .int .i64 pd, .slice A lg.length c] fliT)) w') :=
      Lib.hid (SW.call (fun W h => dec_any num W (by have := hz.2.2.2.1; omega) (by have := hz.2.2.2.2; omega) (HE.out.more h)))
    have KP1 : Hid (∀ W, SW (w.alloc (.cells #[.string car, .int .i64 num, .int .i64 pf, .int .i64 pt, .int .i64 pd, .slice A lg.length c] fliT)) W → Calls Tryz.prog 57 #[.agg #[.int .i64 pf, .int .i64 pt, .int .i64 pd]] W fun e w' => e = .returned (.string sp) ∧ SW (w.alloc (.cells #[.string car, .int .i64 num, .int .i64 pf, .int .i64 pt, .int .i64 pd, .slice A lg.length c] fliT)) w') :=
      Lib.hid (SW.call (fun W h => KPP.out W))
    clear hz HZ HP hpe
    go_enter Tryz.func16, Tryz.ntmps16
    go_upto_region 4 with (go_at_call 55; refine KC.out.mono ?_; rintro e w1 ⟨rfl, hb1⟩)
    have hS1 : SW (w.alloc (.cells #[.string car, .int .i64 num, .int .i64 pf, .int .i64 pt, .int .i64 pd, .slice A lg.length c] fliT)) w1 := hb1
    have f0 := bel_get q0
    have f1 := bel_get q1
    have f2 := bel_get q2
    have f3 := bel_get q3
    have f4 := bel_get q4
    have f5 := bel_get q5
    clear q0 q1 q2 q3 q4 q5
    generalize hw5 : w.alloc (.cells #[.string car, .int .i64 num, .int .i64 pf, .int .i64 pt, .int .i64 pd, .slice A lg.length c] fliT) = w5 at *
    clear hw5 hb1
    generalize decT num = sn at *
    have hS : (SW w5) _ := Below.drew hS1
    refine wp_region_held_drew (S := SW w5) (by kernel_rfl) hS (fun _ => ?_)
    refine wpAnyH_take (i := 0) (v := ?vP0) rfl (by kernel_rfl) (by kernel_rfl) (by kernel_rfl) (fun _ _ _ h => h) (Or.inl ⟨by rfl, ?hyP0⟩) hS ?restP0
    case hyP0 =>
      intro w hSw
      first | (go_simp; done) | (go_simp; with_reducible rfl)
    try simp only [Act.put, List.setIfInBounds_toArray, List.set_cons_zero, List.set_cons_succ]
    refine wpAnyH_take (i := 1) (v := ?vP1) rfl (by kernel_rfl) (by kernel_rfl) (by kernel_rfl) (fun _ _ _ h => h) (Or.inl ⟨by rfl, ?hyP1⟩) hS ?restP1
    case hyP1 =>
      intro w hSw
      have k0 := f0 w hSw
      first | (go_simp; done) | (go_simp; with_reducible rfl)
    try simp only [Act.put, List.setIfInBounds_toArray, List.set_cons_zero, List.set_cons_succ]
    refine wpAnyH_take (i := 2) (v := ?vP2) rfl (by kernel_rfl) (by kernel_rfl) (by kernel_rfl) (fun _ _ _ h => h) (Or.inl ⟨by rfl, ?hyP2⟩) hS ?restP2
    case hyP2 =>
      intro w hSw
      first | (go_simp; done) | (go_simp; with_reducible rfl)
    try simp only [Act.put, List.setIfInBounds_toArray, List.set_cons_zero, List.set_cons_succ]
    refine wpAnyH_take (i := 3) (v := ?vP3) rfl (by kernel_rfl) (by kernel_rfl) (by kernel_rfl) (fun _ _ _ h => h) (Or.inl ⟨by rfl, ?hyP3⟩) hS ?restP3
    case hyP3 =>
      intro w hSw
      have k0 := f1 w hSw
      first | (go_simp; done) | (go_simp; with_reducible rfl)
    try simp only [Act.put, List.setIfInBounds_toArray, List.set_cons_zero, List.set_cons_succ]
    refine wpAnyH_take (i := 5) (v := ?vP5) rfl (by kernel_rfl) (by kernel_rfl) (by kernel_rfl) (fun _ _ _ h => h) (Or.inl ⟨by rfl, ?hyP5⟩) hS ?restP5
    case hyP5 =>
      intro w hSw
      first | (go_simp; done) | (go_simp; with_reducible rfl)
    try simp only [Act.put, List.setIfInBounds_toArray, List.set_cons_zero, List.set_cons_succ]
    refine wpAnyH_take (i := 6) (v := ?vP6) rfl (by kernel_rfl) (by kernel_rfl) (by kernel_rfl) (fun _ _ _ h => h) (Or.inl ⟨by rfl, ?hyP6⟩) hS ?restP6
    case hyP6 =>
      intro w hSw
      have k0 := f2 w hSw; have k1 := f3 w hSw; have k2 := f4 w hSw
      first | (go_simp; done) | (go_simp; with_reducible rfl)
    try simp only [Act.put, List.setIfInBounds_toArray, List.set_cons_zero, List.set_cons_succ]
    refine wpAnyH_ready (rs := [4]) (by kernel_rfl) (by simp) ?_
    refine AllReadyH.cons rfl (fun K hK => ?_) AllReadyH.nil
    go_simp
    go_wp2_with ((go_at_call 56; with_reducible refine (KD1.out _ hS).mono ?_; rintro e w2 ⟨rfl, hS⟩))
    refine hK.out _ _ hS (fun _ => ?_)
    clear hK K
    refine wpAnyH_ready (rs := [7]) (by kernel_rfl) (by simp) ?_
    refine AllReadyH.cons rfl (fun K hK => ?_) AllReadyH.nil
    go_simp
    go_wp2_with ((go_at_call 57; with_reducible refine (KP1.out _ hS).mono ?_; rintro e w2 ⟨rfl, hS⟩))
    refine hK.out _ _ hS (fun _ => ?_)
    clear hK K
    refine wpAnyH_ready (rs := [8]) (by kernel_rfl) (by simp) ?_
    refine AllReadyH.cons rfl (fun K hK => ?_) AllReadyH.nil
    go_simp
    have hSp := hS
    have hS : SW w5 _ := Below.trans hS (Below.mono (bel_alloc w2 (.cells #[.string car, .string sn, .string sp] 9)) hS.size)
    refine hK.out _ _ hS (fun _ => ?_)
    clear hK K
    refine wpAnyH_take (i := 9) (v := ?vP9) rfl (by kernel_rfl) (by kernel_rfl) (by kernel_rfl) (fun _ _ _ h => h) (Or.inl ⟨by rfl, ?hyP9⟩) hS ?restP9
    case hyP9 =>
      intro w hSw
      first | (go_simp; done) | (go_simp; with_reducible rfl)
    try simp only [Act.put, List.setIfInBounds_toArray, List.set_cons_zero, List.set_cons_succ]
    refine wpAnyH_done (by kernel_rfl) ?_ _
    simp only [List.getElem_toArray, List.getElem_cons_succ, List.getElem_cons_zero, List.set_cons_zero, List.set_cons_succ]
    generalize hw6 : w2.alloc (.cells #[.string car, .string sn, .string sp] 9) = w6 at *
    have HL : Hid (ROwn 9 1 encS w5.heap.size w6 (.slice (some ⟨w2.heap.size, 0, none⟩) 3 3) (PW 0)) := Lib.hid (by
      rw [HW0.out, ← hw6]
      exact ROwn.new (enc := encS) (sz := 1) hSp.size [car, sn, sp] rtS.len rfl (by show 3 ≤ 1000000; omega))
    have hS6 : SW w5 w6 := hS
    clear HW0 KD1 KP1 hw6
    have z5 := f5 _ hS6
    go_wp2
    go_loopg [5, 25] lg.length (fun kx v5 vi wr => ∃ (v : Value) (k : Nat), v = v5 ∧ vi = .int .i64 k ∧ k + kx = lg.length ∧ Hid (ROwn 9 1 encS w5.heap.size wr v (PW k) ∧ SW w5 wr))
    case atStart => exact ⟨_, 0, rfl, rfl, by omega, Lib.hid ⟨HL.out, hS6⟩⟩
    case round =>
      obtain ⟨v, k, rfl, rfl, hkx, HH⟩ := hrel
      clear HL
      have HKX := Lib.hid hkx
      have hSr : SW w5 wr := HH.out.2
      by_cases hlt : k < lg.length
      · clear hkx
        obtain ⟨b, o, x, rfl, hbl, hx, c0, c1, c2, c3, c4⟩ := LegL.get (HG.out.more hSr) hlt
        have hbd := HB.out x (List.mem_of_getElem? hx)
        have HTk := Lib.hid (HSU.out k x hx)
        have HLn : Hid ((PW k).length + 5 ≤ 100000000) := Lib.hid (by have := HLE.out k; omega)
        have hO := HH.out.1
        have HV1 : Hid (∀ g, v.ownBlock = some g → w5.heap.size ≤ g ∧ g < wr.heap.size) := Lib.hid (fun g hg => hO.low hg)
        have hvN : v.ownBlock ≠ some wr.heap.size := fun h => by have := (HV1.out _ h).2; omega
        have hb6 := bel_alloc wr (.cells #[.string x.f, .string x.t, .int .i64 x.dep, .int .i64 x.arr, .string x.eq] legT)
        have HSW : Hid (∀ W, SX (wr.alloc (.cells #[.string x.f, .string x.t, .int .i64 x.dep, .int .i64 x.arr, .string x.eq] legT)) v W → SW w5 W) := Lib.hid (fun W h => Below.trans hSr ((hb6.mono hSr.size).trans (h.below (Nat.le_trans hSr.size hb6.size) (fun k' hk' hv => by have := (HV1.out _ hv).1; omega))))
        have n0 : ∀ W, SX (wr.alloc (.cells #[.string x.f, .string x.t, .int .i64 x.dep, .int .i64 x.arr, .string x.eq] legT)) v W → W.cell? ⟨wr.heap.size, 0, none⟩ = some (Value.string x.f) := fun W h => SX.cell ((cells_new wr #[.string x.f, .string x.t, .int .i64 x.dep, .int .i64 x.arr, .string x.eq] legT 0).trans (show _ = some (Value.string x.f) from rfl)) hvN h
        have n1 : ∀ W, SX (wr.alloc (.cells #[.string x.f, .string x.t, .int .i64 x.dep, .int .i64 x.arr, .string x.eq] legT)) v W → W.cell? ⟨wr.heap.size, 1, none⟩ = some (Value.string x.t) := fun W h => SX.cell ((cells_new wr #[.string x.f, .string x.t, .int .i64 x.dep, .int .i64 x.arr, .string x.eq] legT 1).trans (show _ = some (Value.string x.t) from rfl)) hvN h
        have n2 : ∀ W, SX (wr.alloc (.cells #[.string x.f, .string x.t, .int .i64 x.dep, .int .i64 x.arr, .string x.eq] legT)) v W → W.cell? ⟨wr.heap.size, 2, none⟩ = some (Value.int .i64 x.dep) := fun W h => SX.cell ((cells_new wr #[.string x.f, .string x.t, .int .i64 x.dep, .int .i64 x.arr, .string x.eq] legT 2).trans (show _ = some (Value.int .i64 x.dep) from rfl)) hvN h
        have n3 : ∀ W, SX (wr.alloc (.cells #[.string x.f, .string x.t, .int .i64 x.dep, .int .i64 x.arr, .string x.eq] legT)) v W → W.cell? ⟨wr.heap.size, 3, none⟩ = some (Value.int .i64 x.arr) := fun W h => SX.cell ((cells_new wr #[.string x.f, .string x.t, .int .i64 x.dep, .int .i64 x.arr, .string x.eq] legT 3).trans (show _ = some (Value.int .i64 x.arr) from rfl)) hvN h
        have n4 : ∀ W, SX (wr.alloc (.cells #[.string x.f, .string x.t, .int .i64 x.dep, .int .i64 x.arr, .string x.eq] legT)) v W → W.cell? ⟨wr.heap.size, 4, none⟩ = some (Value.string x.eq) := fun W h => SX.cell ((cells_new wr #[.string x.f, .string x.t, .int .i64 x.dep, .int .i64 x.arr, .string x.eq] legT 4).trans (show _ = some (Value.string x.eq) from rfl)) hvN h
        have KD2 : Hid (∀ W, SX (wr.alloc (.cells #[.string x.f, .string x.t, .int .i64 x.dep, .int .i64 x.arr, .string x.eq] legT)) v W → Calls Tryz.prog 56 #[.int .i64 x.dep] W fun e w' => e = .returned (.string (decT x.dep)) ∧ Below W.heap.size W w') := Lib.hid (fun W h => dec_any x.dep W (by omega) (by omega) (HE.out.more (HSW.out W h)))
        have KD3 : Hid (∀ W, SX (wr.alloc (.cells #[.string x.f, .string x.t, .int .i64 x.dep, .int .i64 x.arr, .string x.eq] legT)) v W → Calls Tryz.prog 56 #[.int .i64 x.arr] W fun e w' => e = .returned (.string (decT x.arr)) ∧ Below W.heap.size W w') := Lib.hid (fun W h => dec_any x.arr W (by omega) (by omega) (HE.out.more (HSW.out W h)))
        generalize decT x.dep = sd at *
        generalize decT x.arr = sa at *
        have i2 : (k : Int) < (lg.length : Int) := by omega
        have hO := hO.more (hb6.trans ((Below.refl _ (wr.alloc (.cells #[.string x.f, .string x.t, .int .i64 x.dep, .int .i64 x.arr, .string x.eq] legT))).drew.mono hb6.size))
        clear hx hbl hbd
        go_upto_region 8 with (fail)
        generalize hw6 : wr.alloc (.cells #[.string x.f, .string x.t, .int .i64 x.dep, .int .i64 x.arr, .string x.eq] legT) = w6 at *
        clear hw6 c0 c1 c2 c3 c4
        have hS : (SX w6 v) _ := But.of_below (Below.refl _ _).drew
        refine wp_region_held_drew (S := SX w6 v) (by kernel_rfl) hS (fun _ => ?_)
        refine wpAnyH_take (i := 0) (v := ?vQ0) rfl (by kernel_rfl) (by kernel_rfl) (by kernel_rfl) (fun _ _ _ h => h) (Or.inl ⟨by rfl, ?hyQ0⟩) hS ?restQ0
        case hyQ0 =>
          intro w hSw
          first | (go_simp; done) | (go_simp; with_reducible rfl)
        try simp only [Act.put, List.setIfInBounds_toArray, List.set_cons_zero, List.set_cons_succ]
        refine wpAnyH_take (i := 1) (v := ?vQ1) rfl (by kernel_rfl) (by kernel_rfl) (by kernel_rfl) (fun _ _ _ h => h) (Or.inl ⟨by rfl, ?hyQ1⟩) hS ?restQ1
        case hyQ1 =>
          intro w hSw
          first | (go_simp; done) | (go_simp; with_reducible rfl)
        try simp only [Act.put, List.setIfInBounds_toArray, List.set_cons_zero, List.set_cons_succ]
        refine wpAnyH_take (i := 2) (v := ?vQ2) rfl (by kernel_rfl) (by kernel_rfl) (by kernel_rfl) (fun _ _ _ h => h) (Or.inl ⟨by rfl, ?hyQ2⟩) hS ?restQ2
        case hyQ2 =>
          intro w hSw
          have k0 := n0 w hSw
          first | (go_simp; done) | (go_simp; with_reducible rfl)
        try simp only [Act.put, List.setIfInBounds_toArray, List.set_cons_zero, List.set_cons_succ]
        refine wpAnyH_take (i := 3) (v := ?vQ3) rfl (by kernel_rfl) (by kernel_rfl) (by kernel_rfl) (fun _ _ _ h => h) (Or.inl ⟨by rfl, ?hyQ3⟩) hS ?restQ3
        case hyQ3 =>
          intro w hSw
          first | (go_simp; done) | (go_simp; with_reducible rfl)
        try simp only [Act.put, List.setIfInBounds_toArray, List.set_cons_zero, List.set_cons_succ]
        refine wpAnyH_take (i := 4) (v := ?vQ4) rfl (by kernel_rfl) (by kernel_rfl) (by kernel_rfl) (fun _ _ _ h => h) (Or.inl ⟨by rfl, ?hyQ4⟩) hS ?restQ4
        case hyQ4 =>
          intro w hSw
          have k0 := n1 w hSw
          first | (go_simp; done) | (go_simp; with_reducible rfl)
        try simp only [Act.put, List.setIfInBounds_toArray, List.set_cons_zero, List.set_cons_succ]
        refine wpAnyH_take (i := 5) (v := ?vQ5) rfl (by kernel_rfl) (by kernel_rfl) (by kernel_rfl) (fun _ _ _ h => h) (Or.inl ⟨by rfl, ?hyQ5⟩) hS ?restQ5
        case hyQ5 =>
          intro w hSw
          first | (go_simp; done) | (go_simp; with_reducible rfl)
        try simp only [Act.put, List.setIfInBounds_toArray, List.set_cons_zero, List.set_cons_succ]
        refine wpAnyH_take (i := 6) (v := ?vQ6) rfl (by kernel_rfl) (by kernel_rfl) (by kernel_rfl) (fun _ _ _ h => h) (Or.inl ⟨by rfl, ?hyQ6⟩) hS ?restQ6
        case hyQ6 =>
          intro w hSw
          have k0 := n2 w hSw
          first | (go_simp; done) | (go_simp; with_reducible rfl)
        try simp only [Act.put, List.setIfInBounds_toArray, List.set_cons_zero, List.set_cons_succ]
        refine wpAnyH_take (i := 8) (v := ?vQ8) rfl (by kernel_rfl) (by kernel_rfl) (by kernel_rfl) (fun _ _ _ h => h) (Or.inl ⟨by rfl, ?hyQ8⟩) hS ?restQ8
        case hyQ8 =>
          intro w hSw
          first | (go_simp; done) | (go_simp; with_reducible rfl)
        try simp only [Act.put, List.setIfInBounds_toArray, List.set_cons_zero, List.set_cons_succ]
        refine wpAnyH_take (i := 9) (v := ?vQ9) rfl (by kernel_rfl) (by kernel_rfl) (by kernel_rfl) (fun _ _ _ h => h) (Or.inl ⟨by rfl, ?hyQ9⟩) hS ?restQ9
        case hyQ9 =>
          intro w hSw
          have k0 := n3 w hSw
          first | (go_simp; done) | (go_simp; with_reducible rfl)
        try simp only [Act.put, List.setIfInBounds_toArray, List.set_cons_zero, List.set_cons_succ]
        refine wpAnyH_take (i := 11) (v := ?vQ11) rfl (by kernel_rfl) (by kernel_rfl) (by kernel_rfl) (fun _ _ _ h => h) (Or.inl ⟨by rfl, ?hyQ11⟩) hS ?restQ11
        case hyQ11 =>
          intro w hSw
          first | (go_simp; done) | (go_simp; with_reducible rfl)
        try simp only [Act.put, List.setIfInBounds_toArray, List.set_cons_zero, List.set_cons_succ]
        refine wpAnyH_take (i := 12) (v := ?vQ12) rfl (by kernel_rfl) (by kernel_rfl) (by kernel_rfl) (fun _ _ _ h => h) (Or.inl ⟨by rfl, ?hyQ12⟩) hS ?restQ12
        case hyQ12 =>
          intro w hSw
          have k0 := n4 w hSw
          first | (go_simp; done) | (go_simp; with_reducible rfl)
        try simp only [Act.put, List.setIfInBounds_toArray, List.set_cons_zero, List.set_cons_succ]
        refine wpAnyH_ready (rs := [7]) (by kernel_rfl) (by simp) ?_
        refine AllReadyH.cons rfl (fun K hK => ?_) AllReadyH.nil
        go_simp
        go_wp2_with ((go_at_call 56; with_reducible refine (KD2.out _ hS).mono ?_; rintro e w' ⟨rfl, hb'⟩; have hO := hO.more hb'; have hS := hS.on hb'))
        refine hK.out _ _ hS (fun _ => ?_)
        clear hK K
        refine wpAnyH_ready (rs := [10]) (by kernel_rfl) (by simp) ?_
        refine AllReadyH.cons rfl (fun K hK => ?_) AllReadyH.nil
        go_simp
        go_wp2_with ((go_at_call 56; with_reducible refine (KD3.out _ hS).mono ?_; rintro e w' ⟨rfl, hb'⟩; have hO := hO.more hb'; have hS := hS.on hb'))
        refine hK.out _ _ hS (fun _ => ?_)
        clear hK K
        refine wpAnyH_ready (rs := [13]) (by kernel_rfl) (by simp) ?_
        refine AllReadyH.cons rfl (fun K hK => ?_) AllReadyH.nil
        go_simp
        have hSp := hS
        have hS := hS.on (bel_alloc _ (.cells #[.string x.f, .string x.t, .string sd, .string sa, .string x.eq] 9))
        refine hK.out _ _ hS (fun _ => ?_)
        clear hK K
        refine wpAnyH_ready (rs := [14]) (by kernel_rfl) (by simp) ?_
        refine AllReadyH.cons rfl (fun K hK => ?_) AllReadyH.nil
        refine step_rapps rtS rfl _ _ rfl (hO.alloc (.cells #[.string x.f, .string x.t, .string sd, .string sa, .string x.eq] 9)) rfl w'.heap.size 0 [x.f, x.t, sd, sa, x.eq] 5 _ rfl rfl (by omega) (fun i y j u hi hu => ?_) HLn.out ?_
        · exact five_cells w' _ _ _ _ _ _ i y j u hi hu
        intro v8 w8 hO8 hC8
        go_simp
        have hS := hS.trans hC8.but (fun _ _ h => h)
        refine hK.out _ _ hS (fun _ => ?_)
        clear hK K
        refine wpAnyH_take (i := 15) (v := ?vQ15) rfl (by kernel_rfl) (by kernel_rfl) (by kernel_rfl) (fun _ _ _ h => h) (Or.inl ⟨by rfl, ?hyQ15⟩) hS ?restQ15
        case hyQ15 =>
          intro w hSw
          first | (go_simp; done) | (go_simp; with_reducible rfl)
        try simp only [Act.put, List.setIfInBounds_toArray, List.set_cons_zero, List.set_cons_succ]
        refine wpAnyH_done (by kernel_rfl) ?_ _
        simp only [List.getElem_toArray, List.getElem_cons_succ, List.getElem_cons_zero, List.set_cons_zero, List.set_cons_succ]
        have HY : Hid (ROwn 9 1 encS w5.heap.size w8 v8 (PW (k + 1)) ∧ SW w5 w8) := Lib.hid ⟨by rw [HTk.out]; exact hO8, HSW.out _ hS⟩
        clear hO8 hC8 hS hSp hO
        go_wp2
        go_roundg (lg.length - (k + 1))
        case measure => have := HKX.out; omega
        case rel => exact ⟨_, k + 1, rfl, by go_num, by omega, HY⟩
      · have hk : k = lg.length := by omega
        have hO := HH.out.1
        rw [hk] at hO
        have hv := RowL.strL (hO.rowL rtS.len)
        have HLn : Hid ((PW lg.length).length ≤ 2000) := Lib.hid (by have := HLE.out lg.length; omega)
        have KJ := Lib.hid (join_any v (PW lg.length) wr hv HLn.out HS.out)
        have hSw : Below w.heap.size w wr := hb0.trans (Below.mono hSr hb0.size)
        rw [← HPT.out] at KJ
        have i1 : ¬ (k : Int) < (lg.length : Int) := by omega
        clear HH hkx hk hO hv
        go_wp2_with (go_at_call 58; refine KJ.out.mono ?_; rintro e w9 ⟨rfl, hb9⟩)
        exact bodyPost_ret (results_tmp2 rfl _ _ _) rfl ⟨by rw [HR.out]; rfl, hSw.trans (Below.mono hb9 hSw.size)⟩

end Go.Proofs.YtldillnjnjkkgaaGreatDoor

/- Walk of the flight laws' awake. -/
namespace Go.Proofs.YtldillnjnjkkgaaGreatDoor
open Go.RowKit Go.Shelf
set_option linter.unusedSimpArgs false
set_option linter.unusedVariables false

/-! ### the example -/
def s7A : List Air := [⟨⟨#[76, 72, 82]⟩, ⟨#[76, 79, 78]⟩, ⟨#[71, 66]⟩, 0, none, 0, []⟩, ⟨⟨#[74, 70, 75]⟩, ⟨#[78, 89, 67]⟩, ⟨#[85, 83]⟩, -300, none, 0, []⟩]
def s7G (arr : Int) : Lg := ⟨⟨#[76, 72, 82]⟩, ⟨#[74, 70, 75]⟩, 500, arr, ⟨#[55, 55, 55]⟩⟩
def s7F (arr : Int) (A : Option Addr) (c : Nat) : FV := ⟨⟨#[66, 65]⟩, 117, 9497, 9497, 8, A, c, [s7G arr]⟩
def s7P (N : Nat) : PV := ⟨some ⟨N, 0, none⟩, 2, s7A, none, 0, []⟩
theorem s7_ok : ∀ a ∈ s7A, OkZ a.off a.shs := by
  intro a ha
  simp only [s7A, List.mem_cons, List.not_mem_nil, or_false] at ha
  rcases ha with rfl | rfl <;> exact errZ_ok (by decide)
theorem s7_okG (arr : Int) (h : 0 ≤ arr ∧ arr ≤ 1000) : OkG (s7G arr) := ⟨show 3 ≤ maxLen by decide, show 3 ≤ maxLen by decide, show 3 ≤ maxLen by decide, by show -9223372036854775808 ≤ (500 : Int) ∧ (500 : Int) ≤ 9223372036854775807; omega, by show -9223372036854775808 ≤ arr ∧ arr ≤ 9223372036854775807; omega⟩
theorem s7_legE : legE (s7F 700 none 0) 9497 = 0 := by decide +kernel
theorem s7_dep : depL s7A (s7G 700) 9497 = 13676180 := by decide +kernel
theorem s7_arr : arrL s7A (s7G 700) 9497 = 13676680 := by decide +kernel
theorem s7_legF (A : Option Addr) (c : Nat) : legF s7A (s7F 700 A c) 9497 = [⟨⟨#[66, 65]⟩, 117, 9497, ⟨#[76, 72, 82]⟩, ⟨#[74, 70, 75]⟩, 13676180, 13676680, ⟨#[55, 55, 55]⟩⟩] := by
  have h : Per.hasQ (9497, 9497, 8) 9497 = true := by decide +kernel
  show (if Per.hasQ (9497, 9497, 8) 9497 then [datL s7A (s7F 700 A c) 9497 (s7G 700)] else []) = _
  rw [if_pos h]
  show [(⟨⟨#[66, 65]⟩, 117, 9497, ⟨#[76, 72, 82]⟩, ⟨#[74, 70, 75]⟩, depL s7A (s7G 700) 9497, arrL s7A (s7G 700) 9497, ⟨#[55, 55, 55]⟩⟩ : Dt)] = _
  rw [s7_dep, s7_arr]
theorem s7_prE (A : Option Addr) (c : Nat) : prE (s7F 700 A c) = 0 := (show prE (s7F 700 A c) = prE (s7F 700 none 0) from rfl).trans (by decide +kernel)
theorem s7_prS (A : Option Addr) (c : Nat) : prS (s7F 700 A c) = ⟨#[66, 65, 32, 49, 49, 55, 32, 50, 48, 50, 54, 45, 48, 49, 45, 48, 49, 47, 50, 48, 50, 54, 45, 48, 49, 45, 48, 49, 47, 52, 32, 76, 72, 82, 32, 74, 70, 75, 32, 53, 48, 48, 32, 55, 48, 48, 32, 55, 55, 55]⟩ := (show prS (s7F 700 A c) = prS (s7F 700 none 0) from rfl).trans (by decide +kernel)
theorem s7_ch1 (A : Option Addr) (c : Nat) : chF s7A (s7F 700 A c) = [] := (show chF s7A (s7F 700 A c) = chF s7A (s7F 700 none 0) from rfl).trans (by decide +kernel)
theorem s7_ch2 (A : Option Addr) (c : Nat) : chF s7A (s7F 200 A c) = [(13, ⟨#[100, 97, 121, 32, 50, 48, 50, 54, 45, 48, 49, 45, 48, 49]⟩)] := (show chF s7A (s7F 200 A c) = chF s7A (s7F 200 none 0) from rfl).trans (by decide +kernel)
theorem s7_airL (w w' : World) (h : Below w.heap.size (w.alloc (.cells #[.string ⟨#[76, 72, 82]⟩, .string ⟨#[76, 79, 78]⟩, .string ⟨#[71, 66]⟩, .int .i64 0, .slice none 0 0, .string ⟨#[74, 70, 75]⟩, .string ⟨#[78, 89, 67]⟩, .string ⟨#[85, 83]⟩, .int .i64 (-300), .slice none 0 0] airT)) w') (hs : w.heap.size < w'.heap.size) (hc : ∀ j v, (w.alloc (.cells #[.string ⟨#[76, 72, 82]⟩, .string ⟨#[76, 79, 78]⟩, .string ⟨#[71, 66]⟩, .int .i64 0, .slice none 0 0, .string ⟨#[74, 70, 75]⟩, .string ⟨#[78, 89, 67]⟩, .string ⟨#[85, 83]⟩, .int .i64 (-300), .slice none 0 0] airT)).cell? ⟨w.heap.size, j, none⟩ = some v → w'.cell? ⟨w.heap.size, j, none⟩ = some v) : AirL w' (some ⟨w.heap.size, 0, none⟩) s7A := by
  refine .inr ⟨w.heap.size, 0, rfl, hs, fun i a hi => ?_⟩
  have hg : ∀ j v, (#[.string ⟨#[76, 72, 82]⟩, .string ⟨#[76, 79, 78]⟩, .string ⟨#[71, 66]⟩, .int .i64 0, .slice none 0 0, .string ⟨#[74, 70, 75]⟩, .string ⟨#[78, 89, 67]⟩, .string ⟨#[85, 83]⟩, .int .i64 (-300), .slice none 0 0] : Array Value)[j]? = some v → w'.cell? ⟨w.heap.size, j, none⟩ = some v := fun j v hv => hc j v ((cells_new w #[.string ⟨#[76, 72, 82]⟩, .string ⟨#[76, 79, 78]⟩, .string ⟨#[71, 66]⟩, .int .i64 0, .slice none 0 0, .string ⟨#[74, 70, 75]⟩, .string ⟨#[78, 89, 67]⟩, .string ⟨#[85, 83]⟩, .int .i64 (-300), .slice none 0 0] airT j).trans hv)
  have hlt := (List.getElem?_eq_some_iff.1 hi).1
  have h2 : i = 0 ∨ i = 1 := by simp [s7A] at hlt; omega
  rcases h2 with rfl | rfl
  · simp [s7A] at hi
    subst hi
    exact ⟨hg 0 _ rfl, hg 1 _ rfl, hg 2 _ rfl, hg 3 _ rfl, hg 4 _ rfl, .inl rfl⟩
  · simp [s7A] at hi
    subst hi
    exact ⟨hg 5 _ rfl, hg 6 _ rfl, hg 7 _ rfl, hg 8 _ rfl, hg 9 _ rfl, .inl rfl⟩
theorem s7_legL (w : World) (arr : Int) : LegL (w.alloc (.cells #[.string ⟨#[76, 72, 82]⟩, .string ⟨#[74, 70, 75]⟩, .int .i64 500, .int .i64 arr, .string ⟨#[55, 55, 55]⟩] legT)) (.slice (some ⟨w.heap.size, 0, none⟩) 1 1) [s7G arr] :=
  RowL.new (enc := encLg) (sz := 5) w [s7G arr] legT (fun _ => rfl) rfl 1

theorem RowL.but {α : Type} {enc : α → List Value} {sz : Nat} {w w' : World} {X : Nat → Prop} {b o n c : Nat} {l : List α} (h : RowL sz enc w (.slice (some ⟨b, o, none⟩) n c) l) (hB : But w w' X) (hx : ¬ X b) : RowL sz enc w' (.slice (some ⟨b, o, none⟩) n c) l := by
  obtain ⟨A, c', e, h⟩ := h
  cases e
  refine ⟨_, _, rfl, ?_⟩
  rcases h with h | ⟨b', o', e, hlt, hc⟩
  · exact .inl h
  · cases e
    exact .inr ⟨b, o, rfl, Nat.lt_of_lt_of_le hlt hB.size, fun i x j u hi hu => (World.cell?_of_block (hB.block b hlt hx)).trans (hc i x j u hi hu)⟩

set_option maxRecDepth 100000 in
set_option maxHeartbeats 8000000 in
theorem awake7_any (w : World) (hE : EnvP w) : Calls Tryz.prog 15 #[] w fun e w' => e = .returned (.bool true) ∧ Below w.heap.size w w' := by
  have hb1 := bel_alloc w (.cells #[.string ⟨#[76, 72, 82]⟩, .string ⟨#[76, 79, 78]⟩, .string ⟨#[71, 66]⟩, .int .i64 0, .slice none 0 0, .string ⟨#[74, 70, 75]⟩, .string ⟨#[78, 89, 67]⟩, .string ⟨#[85, 83]⟩, .int .i64 (-300), .slice none 0 0] airT)
  have hb2 := bel_alloc (w.alloc (.cells #[.string ⟨#[76, 72, 82]⟩, .string ⟨#[76, 79, 78]⟩, .string ⟨#[71, 66]⟩, .int .i64 0, .slice none 0 0, .string ⟨#[74, 70, 75]⟩, .string ⟨#[78, 89, 67]⟩, .string ⟨#[85, 83]⟩, .int .i64 (-300), .slice none 0 0] airT)) (.cells #[.slice (some ⟨w.heap.size, 0, none⟩) 2 2, .slice none 0 0] placesT)
  have hb3 := bel_alloc ((w.alloc (.cells #[.string ⟨#[76, 72, 82]⟩, .string ⟨#[76, 79, 78]⟩, .string ⟨#[71, 66]⟩, .int .i64 0, .slice none 0 0, .string ⟨#[74, 70, 75]⟩, .string ⟨#[78, 89, 67]⟩, .string ⟨#[85, 83]⟩, .int .i64 (-300), .slice none 0 0] airT)).alloc (.cells #[.slice (some ⟨w.heap.size, 0, none⟩) 2 2, .slice none 0 0] placesT)) (.cells #[.string ⟨#[76, 72, 82]⟩, .string ⟨#[74, 70, 75]⟩, .int .i64 500, .int .i64 700, .string ⟨#[55, 55, 55]⟩] legT)
  have hb0 : Below w.heap.size w (((w.alloc (.cells #[.string ⟨#[76, 72, 82]⟩, .string ⟨#[76, 79, 78]⟩, .string ⟨#[71, 66]⟩, .int .i64 0, .slice none 0 0, .string ⟨#[74, 70, 75]⟩, .string ⟨#[78, 89, 67]⟩, .string ⟨#[85, 83]⟩, .int .i64 (-300), .slice none 0 0] airT)).alloc (.cells #[.slice (some ⟨w.heap.size, 0, none⟩) 2 2, .slice none 0 0] placesT)).alloc (.cells #[.string ⟨#[76, 72, 82]⟩, .string ⟨#[74, 70, 75]⟩, .int .i64 500, .int .i64 700, .string ⟨#[55, 55, 55]⟩] legT)) := hb1.trans ((hb2.mono hb1.size).trans (hb3.mono (Nat.le_trans hb1.size hb2.size)))
  have hA : AirL (((w.alloc (.cells #[.string ⟨#[76, 72, 82]⟩, .string ⟨#[76, 79, 78]⟩, .string ⟨#[71, 66]⟩, .int .i64 0, .slice none 0 0, .string ⟨#[74, 70, 75]⟩, .string ⟨#[78, 89, 67]⟩, .string ⟨#[85, 83]⟩, .int .i64 (-300), .slice none 0 0] airT)).alloc (.cells #[.slice (some ⟨w.heap.size, 0, none⟩) 2 2, .slice none 0 0] placesT)).alloc (.cells #[.string ⟨#[76, 72, 82]⟩, .string ⟨#[74, 70, 75]⟩, .int .i64 500, .int .i64 700, .string ⟨#[55, 55, 55]⟩] legT)) (some ⟨w.heap.size, 0, none⟩) s7A := s7_airL w _ ((hb2.mono hb1.size).trans (hb3.mono (Nat.le_trans hb1.size hb2.size))) (by simp; omega) (fun j v h => bel_cell hb3 (bel_cell hb2 h))
  have hG : LegL (((w.alloc (.cells #[.string ⟨#[76, 72, 82]⟩, .string ⟨#[76, 79, 78]⟩, .string ⟨#[71, 66]⟩, .int .i64 0, .slice none 0 0, .string ⟨#[74, 70, 75]⟩, .string ⟨#[78, 89, 67]⟩, .string ⟨#[85, 83]⟩, .int .i64 (-300), .slice none 0 0] airT)).alloc (.cells #[.slice (some ⟨w.heap.size, 0, none⟩) 2 2, .slice none 0 0] placesT)).alloc (.cells #[.string ⟨#[76, 72, 82]⟩, .string ⟨#[74, 70, 75]⟩, .int .i64 500, .int .i64 700, .string ⟨#[55, 55, 55]⟩] legT)) (.slice (some ⟨w.heap.size + 1 + 1, 0, none⟩) 1 1) [s7G 700] := by
    have := s7_legL ((w.alloc (.cells #[.string ⟨#[76, 72, 82]⟩, .string ⟨#[76, 79, 78]⟩, .string ⟨#[71, 66]⟩, .int .i64 0, .slice none 0 0, .string ⟨#[74, 70, 75]⟩, .string ⟨#[78, 89, 67]⟩, .string ⟨#[85, 83]⟩, .int .i64 (-300), .slice none 0 0] airT)).alloc (.cells #[.slice (some ⟨w.heap.size, 0, none⟩) 2 2, .slice none 0 0] placesT)) 700
    rw [World.size_alloc, World.size_alloc] at this
    exact this
  have p0 := bel_cell hb3 ((cells_new (w.alloc (.cells #[.string ⟨#[76, 72, 82]⟩, .string ⟨#[76, 79, 78]⟩, .string ⟨#[71, 66]⟩, .int .i64 0, .slice none 0 0, .string ⟨#[74, 70, 75]⟩, .string ⟨#[78, 89, 67]⟩, .string ⟨#[85, 83]⟩, .int .i64 (-300), .slice none 0 0] airT)) #[.slice (some ⟨w.heap.size, 0, none⟩) 2 2, .slice none 0 0] placesT 0).trans (show _ = some (Value.slice (some ⟨w.heap.size, 0, none⟩) 2 2) from rfl))
  have p1 := bel_cell hb3 ((cells_new (w.alloc (.cells #[.string ⟨#[76, 72, 82]⟩, .string ⟨#[76, 79, 78]⟩, .string ⟨#[71, 66]⟩, .int .i64 0, .slice none 0 0, .string ⟨#[74, 70, 75]⟩, .string ⟨#[78, 89, 67]⟩, .string ⟨#[85, 83]⟩, .int .i64 (-300), .slice none 0 0] airT)) #[.slice (some ⟨w.heap.size, 0, none⟩) 2 2, .slice none 0 0] placesT 1).trans (show _ = some (Value.slice none 0 0) from rfl))
  rw [World.size_alloc] at p0 p1
  have hE3 := hE.more hb0
  have hsz : (((w.alloc (.cells #[.string ⟨#[76, 72, 82]⟩, .string ⟨#[76, 79, 78]⟩, .string ⟨#[71, 66]⟩, .int .i64 0, .slice none 0 0, .string ⟨#[74, 70, 75]⟩, .string ⟨#[78, 89, 67]⟩, .string ⟨#[85, 83]⟩, .int .i64 (-300), .slice none 0 0] airT)).alloc (.cells #[.slice (some ⟨w.heap.size, 0, none⟩) 2 2, .slice none 0 0] placesT)).alloc (.cells #[.string ⟨#[76, 72, 82]⟩, .string ⟨#[74, 70, 75]⟩, .int .i64 500, .int .i64 700, .string ⟨#[55, 55, 55]⟩] legT)).heap.size = w.heap.size + 1 + 1 + 1 := by simp
  go_enter Tryz.func15, Tryz.ntmps15
  go_upto_region 3 with fail
  generalize hw3 : ((w.alloc (.cells #[.string ⟨#[76, 72, 82]⟩, .string ⟨#[76, 79, 78]⟩, .string ⟨#[71, 66]⟩, .int .i64 0, .slice none 0 0, .string ⟨#[74, 70, 75]⟩, .string ⟨#[78, 89, 67]⟩, .string ⟨#[85, 83]⟩, .int .i64 (-300), .slice none 0 0] airT)).alloc (.cells #[.slice (some ⟨w.heap.size, 0, none⟩) 2 2, .slice none 0 0] placesT)).alloc (.cells #[.string ⟨#[76, 72, 82]⟩, .string ⟨#[74, 70, 75]⟩, .int .i64 500, .int .i64 700, .string ⟨#[55, 55, 55]⟩] legT) = w3 at *
  have q0 := (cells_new w3 #[.string ⟨#[66, 65]⟩, .int .i64 117, .int .i64 9497, .int .i64 9497, .int .i64 8, .slice (some ⟨w.heap.size + 1 + 1, 0, none⟩) 1 1] fliT 0).trans (show _ = some (Value.string ⟨#[66, 65]⟩) from rfl)
  have q1 := (cells_new w3 #[.string ⟨#[66, 65]⟩, .int .i64 117, .int .i64 9497, .int .i64 9497, .int .i64 8, .slice (some ⟨w.heap.size + 1 + 1, 0, none⟩) 1 1] fliT 1).trans (show _ = some (Value.int .i64 117) from rfl)
  have q2 := (cells_new w3 #[.string ⟨#[66, 65]⟩, .int .i64 117, .int .i64 9497, .int .i64 9497, .int .i64 8, .slice (some ⟨w.heap.size + 1 + 1, 0, none⟩) 1 1] fliT 2).trans (show _ = some (Value.int .i64 9497) from rfl)
  have q3 := (cells_new w3 #[.string ⟨#[66, 65]⟩, .int .i64 117, .int .i64 9497, .int .i64 9497, .int .i64 8, .slice (some ⟨w.heap.size + 1 + 1, 0, none⟩) 1 1] fliT 3).trans (show _ = some (Value.int .i64 9497) from rfl)
  have q4 := (cells_new w3 #[.string ⟨#[66, 65]⟩, .int .i64 117, .int .i64 9497, .int .i64 9497, .int .i64 8, .slice (some ⟨w.heap.size + 1 + 1, 0, none⟩) 1 1] fliT 4).trans (show _ = some (Value.int .i64 8) from rfl)
  have q5 := (cells_new w3 #[.string ⟨#[66, 65]⟩, .int .i64 117, .int .i64 9497, .int .i64 9497, .int .i64 8, .slice (some ⟨w.heap.size + 1 + 1, 0, none⟩) 1 1] fliT 5).trans (show _ = some (Value.slice (some ⟨w.heap.size + 1 + 1, 0, none⟩) 1 1) from rfl)
  rw [hsz] at q0 q1 q2 q3 q4 q5
  have hb4 := bel_alloc w3 (.cells #[.string ⟨#[66, 65]⟩, .int .i64 117, .int .i64 9497, .int .i64 9497, .int .i64 8, .slice (some ⟨w.heap.size + 1 + 1, 0, none⟩) 1 1] fliT)
  have hNb := heap_alloc_new w3 (.cells #[.string ⟨#[66, 65]⟩, .int .i64 117, .int .i64 9497, .int .i64 9497, .int .i64 8, .slice (some ⟨w.heap.size + 1 + 1, 0, none⟩) 1 1] fliT)
  rw [hsz] at hNb
  have hsz4 : (w3.alloc (.cells #[.string ⟨#[66, 65]⟩, .int .i64 117, .int .i64 9497, .int .i64 9497, .int .i64 8, .slice (some ⟨w.heap.size + 1 + 1, 0, none⟩) 1 1] fliT)).heap.size = w.heap.size + 1 + 1 + 1 + 1 := by rw [World.size_alloc, hsz]
  generalize hw4 : w3.alloc (.cells #[.string ⟨#[66, 65]⟩, .int .i64 117, .int .i64 9497, .int .i64 9497, .int .i64 8, .slice (some ⟨w.heap.size + 1 + 1, 0, none⟩) 1 1] fliT) = w4 at *
  clear hw3 hw4 hb1 hb2 hb3
  have hNl : w.heap.size + 1 + 1 + 1 < w4.heap.size := by omega
  have fz : ∀ W, SW w4 W → W.frozen? ⟨w.heap.size + 1 + 1 + 1, 5, none⟩ = false := fun W hW => frozen_more hW hNl (frozen_of_row w4 _ 5 _ _ hNb)
  have HNb := Lib.hid hNb
  clear hNb
  have HS3 : Hid (∀ W, SW w4 W → SW w3 W) := Lib.hid (fun W h => Below.trans hb4 (Below.mono h hb4.size))
  have hle : ∀ a ∈ s7A, a.shs.length ≤ 300 := by decide
  have KL : Hid (∀ W, SW w4 W → Calls Tryz.prog 35 #[.agg #[.slice (some ⟨w.heap.size, 0, none⟩) 2 2, .slice none 0 0], .agg #[.string ⟨#[66, 65]⟩, .int .i64 117, .int .i64 9497, .int .i64 9497, .int .i64 8, .slice (some ⟨w.heap.size + 1 + 1, 0, none⟩) 1 1], .int .i64 9497] W fun e w' => ∃ g c, e = .returned (.tuple #[.slice (some ⟨g, 0, none⟩) 1 c, .int .i64 0]) ∧ w'.cell? ⟨g, 5, none⟩ = some (.int .i64 13676180) ∧ w'.cell? ⟨g, 6, none⟩ = some (.int .i64 13676680) ∧ w4.heap.size ≤ g ∧ SW w4 w') := Lib.hid (fun W h => (legs_any (s7P w.heap.size) (s7F 700 (some ⟨w.heap.size + 1 + 1, 0, none⟩) 1) 9497 W (show 2 ≤ 40 by omega) (hA.more (HS3.out W h)) hle s7_ok (hG.more (HS3.out W h)) (show 1 ≤ 100 by omega) (fun x hx => by
      simp [s7F] at hx; subst hx; exact ⟨by show -1000000 ≤ (500 : Int) ∧ (500 : Int) ≤ 1000000; omega, by show -1000000 ≤ (700 : Int) ∧ (700 : Int) ≤ 1000000; omega⟩) (by omega) (by omega)).mono (by
    rintro e w' ⟨v, rfl, hO, hb⟩
    rw [show (s7P w.heap.size).l = s7A from rfl, s7_legF] at hO
    obtain ⟨g, c, rfl, h1, h2⟩ := hO.own.form (by simp [cellsR, encDt])
    have hc := hO.own.cells (g := g) rfl
    have hadd : ∀ j, (⟨g, 0, none⟩ : Addr).add j = ⟨g, j, none⟩ := fun j => by unfold Addr.add; split <;> simp_all
    refine ⟨g, c, ?_, ?_, ?_, Nat.le_trans h.size h1, Below.trans h (Below.mono hb h.size)⟩
    · rw [show legE (s7F 700 (some ⟨w.heap.size + 1 + 1, 0, none⟩) 1) 9497 = 0 from s7_legE]
      rfl
    · have := hc 5 (.int .i64 13676180) rfl
      rwa [hadd] at this
    · have := hc 6 (.int .i64 13676680) rfl
      rwa [hadd] at this))
  have KP : Hid (∀ W, SW w4 W → Calls Tryz.prog 16 #[.agg #[.string ⟨#[66, 65]⟩, .int .i64 117, .int .i64 9497, .int .i64 9497, .int .i64 8, .slice (some ⟨w.heap.size + 1 + 1, 0, none⟩) 1 1]] W fun e w' => e = .returned (.tuple #[.string ⟨#[66, 65, 32, 49, 49, 55, 32, 50, 48, 50, 54, 45, 48, 49, 45, 48, 49, 47, 50, 48, 50, 54, 45, 48, 49, 45, 48, 49, 47, 52, 32, 76, 72, 82, 32, 74, 70, 75, 32, 53, 48, 48, 32, 55, 48, 48, 32, 55, 55, 55]⟩, .int .i64 0]) ∧ Below W.heap.size W w') := Lib.hid (fun W h => (fprint_any (s7F 700 (some ⟨w.heap.size + 1 + 1, 0, none⟩) 1) W (hE3.more (HS3.out W h)) (hG.more (HS3.out W h)) (show 2 ≤ maxLen by decide) (fun x hx => by
      simp [s7F] at hx; subst hx; exact s7_okG 700 (by omega)) (show 1 ≤ 1000000 by omega)).mono (by
    rintro e w' ⟨rfl, hb⟩
    exact ⟨by rw [s7_prS, s7_prE], hb⟩))
  have KC1 : Hid (∀ W, SW w4 W → Calls Tryz.prog 54 #[.agg #[.slice (some ⟨w.heap.size, 0, none⟩) 2 2, .slice none 0 0], .agg #[.string ⟨#[66, 65]⟩, .int .i64 117, .int .i64 9497, .int .i64 9497, .int .i64 8, .slice (some ⟨w.heap.size + 1 + 1, 0, none⟩) 1 1]] W fun e w' => ∃ A c, e = .returned (.slice A 0 c) ∧ Below W.heap.size W w') := Lib.hid (fun W h => (fcheck_any (s7P w.heap.size) (s7F 700 (some ⟨w.heap.size + 1 + 1, 0, none⟩) 1) W (show 2 ≤ 40 by omega) (hA.more (HS3.out W h)) hle s7_ok (hG.more (HS3.out W h)) (show 1 ≤ 100 by omega) (show 1 ≤ 1 by omega) (show 2 ≤ maxLen by decide) (fun x hx => by
      simp [s7F] at hx; subst hx; exact s7_okG 700 (by omega)) (fun _ _ W' hW' => checkTimes_any (s7P w.heap.size) (s7F 700 (some ⟨w.heap.size + 1 + 1, 0, none⟩) 1) W' (show 2 ≤ 40 by omega) ((hA.more (HS3.out W h)).more hW') hle s7_ok ((hG.more (HS3.out W h)).more hW') (show 1 ≤ 100 by omega) (fun x hx => by
      simp [s7F] at hx; subst hx; exact ⟨by show -1000000 ≤ (500 : Int) ∧ (500 : Int) ≤ 1000000; omega, by show -1000000 ≤ (700 : Int) ∧ (700 : Int) ≤ 1000000; omega⟩))).mono (by
    rintro e w' ⟨v, rfl, hO, hb⟩
    rw [show (s7P w.heap.size).l = s7A from rfl, s7_ch1] at hO
    obtain ⟨A, c, rfl, _⟩ := hO.rowL rtF.len
    exact ⟨A, c, rfl, hb⟩))
  have KC2 : Hid (∀ W b, SW w3 W → LegL W (.slice (some ⟨b, 0, none⟩) 1 1) [s7G 200] → Calls Tryz.prog 54 #[.agg #[.slice (some ⟨w.heap.size, 0, none⟩) 2 2, .slice none 0 0], .agg #[.string ⟨#[66, 65]⟩, .int .i64 117, .int .i64 9497, .int .i64 9497, .int .i64 8, .slice (some ⟨b, 0, none⟩) 1 1]] W fun e w' => ∃ g c, e = .returned (.slice (some ⟨g, 0, none⟩) 1 c) ∧ w'.cell? ⟨g, 0, none⟩ = some (.int .i64 13) ∧ w'.cell? ⟨g, 1, none⟩ = some (.string ⟨#[100, 97, 121, 32, 50, 48, 50, 54, 45, 48, 49, 45, 48, 49]⟩) ∧ Below W.heap.size W w') := Lib.hid (fun W b h hG2 => (fcheck_any (s7P w.heap.size) (s7F 200 (some ⟨b, 0, none⟩) 1) W (show 2 ≤ 40 by omega) (hA.more h) hle s7_ok hG2 (show 1 ≤ 100 by omega) (show 1 ≤ 1 by omega) (show 2 ≤ maxLen by decide) (fun x hx => by
      simp [s7F] at hx; subst hx; exact s7_okG 200 (by omega)) (fun _ _ W' hW' => checkTimes_any (s7P w.heap.size) (s7F 200 (some ⟨b, 0, none⟩) 1) W' (show 2 ≤ 40 by omega) ((hA.more h).more hW') hle s7_ok (hG2.more hW') (show 1 ≤ 100 by omega) (fun x hx => by
      simp [s7F] at hx; subst hx; exact ⟨by show -1000000 ≤ (500 : Int) ∧ (500 : Int) ≤ 1000000; omega, by show -1000000 ≤ (200 : Int) ∧ (200 : Int) ≤ 1000000; omega⟩))).mono (by
    rintro e w' ⟨v, rfl, hO, hb⟩
    rw [show (s7P w.heap.size).l = s7A from rfl, s7_ch2] at hO
    obtain ⟨g, c, rfl, h1, h2⟩ := hO.own.form (by simp [cellsR, encF])
    have hc := hO.own.cells (g := g) rfl
    have hadd : ∀ j, (⟨g, 0, none⟩ : Addr).add j = ⟨g, j, none⟩ := fun j => by unfold Addr.add; split <;> simp_all
    refine ⟨g, c, rfl, ?_, ?_, hb⟩
    · have := hc 0 (.int .i64 13) rfl
      rwa [hadd] at this
    · have := hc 1 (.string ⟨#[100, 97, 121, 32, 50, 48, 50, 54, 45, 48, 49, 45, 48, 49]⟩) rfl
      rwa [hadd] at this))
  have f0 := bel_get q0
  have f1 := bel_get q1
  have f2 := bel_get q2
  have f3 := bel_get q3
  have f4 := bel_get q4
  have f5 := bel_get q5
  have y0 : ∀ W, SW w4 W → W.cell? ⟨w.heap.size + 1, 0, none⟩ = some (.slice (some ⟨w.heap.size, 0, none⟩) 2 2) := fun W h => bel_get p0 W (HS3.out W h)
  have y1 : ∀ W, SW w4 W → W.cell? ⟨w.heap.size + 1, 1, none⟩ = some (.slice none 0 0) := fun W h => bel_get p1 W (HS3.out W h)
  have hS : SW w4 w4 := Below.refl _ _
  have z0 := y0 _ hS
  have z1 := y1 _ hS
  have HSZ := Lib.hid hsz
  have HSZ4 := Lib.hid hsz4
  have HP := Lib.hid (And.intro p0 p1)
  clear hA hG hle hsz hsz4 hE hE3 p0 p1
  go_upto_region 7 with (first
    | (go_at_call 35; refine (KL.out _ hS).mono ?_; rintro e w5 ⟨g1, c1, rfl, hd0, ha0, hg1, hS⟩; have z0 := y0 _ hS; have z1 := y1 _ hS; have q0 := f0 _ hS; have q1 := f1 _ hS; have q2 := f2 _ hS; have q3 := f3 _ hS; have q4 := f4 _ hS; have q5 := f5 _ hS)
    | (go_at_call 16; refine (KP.out _ hS).mono ?_; rintro e w6 ⟨rfl, hb6⟩; have hS : SW w4 w6 := Below.trans hS (Below.mono hb6 hS.size); have z0 := y0 _ hS; have z1 := y1 _ hS; have q0 := f0 _ hS; have q1 := f1 _ hS; have q2 := f2 _ hS; have q3 := f3 _ hS; have q4 := f4 _ hS; have q5 := f5 _ hS; have hd0 := bel_cell hb6 hd0; have ha0 := bel_cell hb6 ha0)
    | (go_at_call 54; refine (KC1.out _ hS).mono ?_; rintro e w7 ⟨A2, c2, rfl, hb7⟩; have hS : SW w4 w7 := Below.trans hS (Below.mono hb7 hS.size); have z0 := y0 _ hS; have z1 := y1 _ hS; have q0 := f0 _ hS; have q1 := f1 _ hS; have q2 := f2 _ hS; have q3 := f3 _ hS; have q4 := f4 _ hS; have q5 := f5 _ hS; have hd0 := bel_cell hb7 hd0; have ha0 := bel_cell hb7 ha0; have hSb : SW w4 (w7.alloc (.cells #[.string ⟨#[76, 72, 82]⟩, .string ⟨#[74, 70, 75]⟩, .int .i64 500, .int .i64 200, .string ⟨#[55, 55, 55]⟩] legT)) := Below.alloc hS hS.size _; have fz5 := fz _ hSb; have r0 := f0 _ hSb; have r1 := f1 _ hSb; have r2 := f2 _ hSb; have r3 := f3 _ hSb; have r4 := f4 _ hSb; have r5 := f5 _ hSb))
  have hM7 : (w7.alloc (.cells #[.string ⟨#[76, 72, 82]⟩, .string ⟨#[74, 70, 75]⟩, .int .i64 500, .int .i64 200, .string ⟨#[55, 55, 55]⟩] legT)).heap[w.heap.size + 1 + 1 + 1]? = some (.cells #[.string ⟨#[66, 65]⟩, .int .i64 117, .int .i64 9497, .int .i64 9497, .int .i64 8, .slice (some ⟨w.heap.size + 1 + 1, 0, none⟩) 1 1] fliT (0, 0)) := (hSb.block _ hNl).trans HNb.out
  have hM8 := heap_setCell_same _ _ 5 _ fliT (.slice (some ⟨w7.heap.size, 0, none⟩) 1 1) hM7
  have hB8 := But.setCell (w7.alloc (.cells #[.string ⟨#[76, 72, 82]⟩, .string ⟨#[74, 70, 75]⟩, .int .i64 500, .int .i64 200, .string ⟨#[55, 55, 55]⟩] legT)) (w.heap.size + 1 + 1 + 1) 5 (.slice (some ⟨w7.heap.size, 0, none⟩) 1 1)
  have hS8 : SW w3 ((w7.alloc (.cells #[.string ⟨#[76, 72, 82]⟩, .string ⟨#[74, 70, 75]⟩, .int .i64 500, .int .i64 200, .string ⟨#[55, 55, 55]⟩] legT)).setCell ⟨w.heap.size + 1 + 1 + 1, 5, none⟩ (.slice (some ⟨w7.heap.size, 0, none⟩) 1 1)) := Below.setCell (HS3.out _ hSb) (by show w3.heap.size ≤ w.heap.size + 1 + 1 + 1; have := HSZ.out; omega) _
  have hlt7 : w.heap.size + 1 + 1 + 1 < w7.heap.size := Nat.lt_of_lt_of_le hNl hS.size
  have hG2 := RowL.but (s7_legL w7 200) hB8 (by omega)
  have hlg1 : g1 < w7.heap.size := World.block_lt_of_cell? _ _ hd0
  have hng1 : ¬ g1 = w.heap.size + 1 + 1 + 1 := by omega
  have hd0 := (World.cell?_of_block (hB8.block g1 (Nat.lt_of_lt_of_le hlg1 (bel_alloc w7 (.cells #[.string ⟨#[76, 72, 82]⟩, .string ⟨#[74, 70, 75]⟩, .int .i64 500, .int .i64 200, .string ⟨#[55, 55, 55]⟩] legT)).size) hng1)).trans (bel_cell (bel_alloc w7 (.cells #[.string ⟨#[76, 72, 82]⟩, .string ⟨#[74, 70, 75]⟩, .int .i64 500, .int .i64 200, .string ⟨#[55, 55, 55]⟩] legT)) hd0)
  have ha0 := (World.cell?_of_block (hB8.block g1 (Nat.lt_of_lt_of_le hlg1 (bel_alloc w7 (.cells #[.string ⟨#[76, 72, 82]⟩, .string ⟨#[74, 70, 75]⟩, .int .i64 500, .int .i64 200, .string ⟨#[55, 55, 55]⟩] legT)).size) hng1)).trans (bel_cell (bel_alloc w7 (.cells #[.string ⟨#[76, 72, 82]⟩, .string ⟨#[74, 70, 75]⟩, .int .i64 500, .int .i64 200, .string ⟨#[55, 55, 55]⟩] legT)) ha0)
  have u0 := (cell_of_row _ _ 0 _ _ (0, 0) hM8).trans (show _ = some _ from rfl)
  have u1 := (cell_of_row _ _ 1 _ _ (0, 0) hM8).trans (show _ = some _ from rfl)
  have u2 := (cell_of_row _ _ 2 _ _ (0, 0) hM8).trans (show _ = some _ from rfl)
  have u3 := (cell_of_row _ _ 3 _ _ (0, 0) hM8).trans (show _ = some _ from rfl)
  have u4 := (cell_of_row _ _ 4 _ _ (0, 0) hM8).trans (show _ = some _ from rfl)
  have u5 := (cell_of_row _ _ 5 _ _ (0, 0) hM8).trans (show _ = some _ from rfl)
  have x0 := bel_get HP.out.1 _ hS8
  have x1 := bel_get HP.out.2 _ hS8
  clear hM7 hM8 hB8 hS hSb fz5 r0 r1 r2 r3 r4 r5 hlt7 hlg1 hng1 hb6 hb7 z0 z1 q0 q1 q2 q3 q4 q5 f0 f1 f2 f3 f4 f5 y0 y1 fz hg1
  generalize hw8 : (w7.alloc (.cells #[.string ⟨#[76, 72, 82]⟩, .string ⟨#[74, 70, 75]⟩, .int .i64 500, .int .i64 200, .string ⟨#[55, 55, 55]⟩] legT)).setCell ⟨w.heap.size + 1 + 1 + 1, 5, none⟩ (.slice (some ⟨w7.heap.size, 0, none⟩) 1 1) = w8 at *
  clear hw8
  go_wp2_with (go_at_call 54; refine (KC2.out _ _ hS8 hG2).mono ?_; rintro e w9 ⟨g2, c2', rfl, he0, he1, hb9⟩; have hd0 := bel_cell hb9 hd0; have ha0 := bel_cell hb9 ha0)
  go_ret
  exact ⟨rfl, hb0.trans ((Below.trans hS8 (Below.mono hb9 hS8.size)).mono hb0.size)⟩
end Go.Proofs.YtldillnjnjkkgaaGreatDoor

/- The examples of the laws of timetables: plain facts, places and first. -/
namespace Go.Proofs.YtldillnjnjkkgaaGreatDoor
open Go.RowKit Go.Shelf
set_option linter.unusedSimpArgs false
set_option linter.unusedVariables false

theorem store_blk {w : World} {k : Nat} {cs X : Array Value} {t : TypeId} (h : w.heap[k]? = some (.cells cs t (0, 0))) (hs : X.size = cs.size) (h1 : ∀ v ∈ X.toList, v.oneCell' = true) : ∃ w', (storeCells ⟨k, 0, none⟩ X.toList 0).run Tryz.prog w = .ok () w' ∧ w'.heap[k]? = some (.cells X t (0, 0)) ∧ But w w' (fun j => j = k) := by
  have h2 := run_storeCells_at (P := Tryz.prog) k 0 t X.toList 0 cs w h (by simp [hs]) h1
  have e : (cs.toList.take (0 + 0) ++ X.toList ++ cs.toList.drop (0 + 0 + X.toList.length)).toArray = X := by
    have : cs.toList.drop (0 + 0 + X.toList.length) = [] := by simp [hs]
    rw [this]
    simp
  rw [e] at h2
  refine ⟨_, h2, setRow_heap w k cs X t (0, 0) h, ⟨rfl, rfl, rfl, by simp [World.setRow], fun j hj hne => setRow_other w k j X hne⟩⟩
theorem store2 (w2 : World) {XP XF : Array Value} (hP : XP.size = 2) (hF : XF.size = 6) (oP : ∀ v ∈ XP.toList, v.oneCell' = true) (oF : ∀ v ∈ XF.toList, v.oneCell' = true) :
    ∃ wA wB : World, (storeCells ⟨w2.heap.size, 0, none⟩ XP.toList 0).run Tryz.prog ((w2.alloc (.cells #[.slice none 0 0, .slice none 0 0] placesT)).alloc (.cells #[.string noB, .int .i64 0, .int .i64 0, .int .i64 0, .int .i64 0, .slice none 0 0] fliT)) = .ok () wA ∧ (storeCells ⟨w2.heap.size + 1, 0, none⟩ XF.toList 0).run Tryz.prog wA = .ok () wB ∧ wB.heap[w2.heap.size]? = some (.cells XP placesT (0, 0)) ∧ wB.heap[w2.heap.size + 1]? = some (.cells XF fliT (0, 0)) ∧ Below w2.heap.size w2 wB := by
  have b1 := bel_alloc w2 (.cells #[.slice none 0 0, .slice none 0 0] placesT)
  have b2 := bel_alloc (w2.alloc (.cells #[.slice none 0 0, .slice none 0 0] placesT)) (.cells #[.string noB, .int .i64 0, .int .i64 0, .int .i64 0, .int .i64 0, .slice none 0 0] fliT)
  have n1 := heap_alloc_new w2 (.cells #[.slice none 0 0, .slice none 0 0] placesT)
  have n2 := heap_alloc_new (w2.alloc (.cells #[.slice none 0 0, .slice none 0 0] placesT)) (.cells #[.string noB, .int .i64 0, .int .i64 0, .int .i64 0, .int .i64 0, .slice none 0 0] fliT)
  rw [World.size_alloc] at n2
  have hxP := (b2.block _ (lt_of_cell2 n1)).trans n1
  obtain ⟨wA, hst1, hxA, hbA⟩ := store_blk (X := XP) hxP hP oP
  have hxF := (hbA.block (w2.heap.size + 1) (lt_of_cell2 n2) (by omega)).trans n2
  obtain ⟨wB, hst2, hxB, hbB⟩ := store_blk (X := XF) hxF hF oF
  have hlA : w2.heap.size < wA.heap.size := lt_of_cell2 hxA
  refine ⟨wA, wB, hst1, hst2, (hbB.block w2.heap.size hlA (by omega)).trans hxA, hxB, ?_⟩
  have b12 := b1.trans (b2.mono b1.size)
  exact b12.trans ((hbA.below b12.size (fun k hk => by omega)).trans (hbB.below (Nat.le_trans b12.size hbA.size) (fun k hk => by omega)))
/-! ### plain facts -/
def k8F (A : Option Addr) (c : Nat) : FV := ⟨⟨#[66, 65]⟩, 117, 9497, 9499, 127, A, c, [s7G 700]⟩
def k8G : FV := ⟨⟨#[66, 65]⟩, 117, 9497, 9499, 127, none, 0, []⟩
def k8S (dep : Int) : Sg := ⟨⟨#[66, 65]⟩, 117, 9498, ⟨#[76, 72, 82]⟩, ⟨#[74, 70, 75]⟩, dep, 13678120⟩
def k8D (day dep arr : Int) : Dt := ⟨⟨#[66, 65]⟩, 117, day, ⟨#[76, 72, 82]⟩, ⟨#[74, 70, 75]⟩, dep, arr, ⟨#[55, 55, 55]⟩⟩
theorem k8_dep8 : depL s7A (s7G 700) 9498 = 13677620 := by decide +kernel
theorem k8_arr8 : arrL s7A (s7G 700) 9498 = 13678120 := by decide +kernel
theorem k8_dep9 : depL s7A (s7G 700) 9499 = 13679060 := by decide +kernel
theorem k8_arr9 : arrL s7A (s7G 700) 9499 = 13679560 := by decide +kernel
theorem k8_legF (A : Option Addr) (c : Nat) (day dep arr : Int) (h : Per.hasQ (9497, 9499, 127) day = true) (h1 : depL s7A (s7G 700) day = dep) (h2 : arrL s7A (s7G 700) day = arr) : legF s7A (k8F A c) day = [k8D day dep arr] := by
  show (if Per.hasQ (9497, 9499, 127) day then [datL s7A (k8F A c) day (s7G 700)] else []) = _
  rw [if_pos h]
  show [(⟨⟨#[66, 65]⟩, 117, day, ⟨#[76, 72, 82]⟩, ⟨#[74, 70, 75]⟩, depL s7A (s7G 700) day, arrL s7A (s7G 700) day, ⟨#[55, 55, 55]⟩⟩ : Dt)] = _
  rw [h1, h2]
  rfl
theorem k8_on (A : Option Addr) (c : Nat) (day : Int) (h : Per.hasQ (9497, 9499, 127) day = true) : onF [k8F A c] ⟨#[66, 65]⟩ 117 day = some (k8F A c) := by
  unfold onF
  rw [List.find?_cons_of_pos]
  unfold onB
  show ((_ == _) && ((117 == 117) && Per.hasQ (9497, 9499, 127) day)) = true
  rw [h]
  simp [k8F]
theorem k8_off (A : Option Addr) (c : Nat) (day : Int) (h : Per.hasQ (9497, 9499, 127) day = false) : onF [k8F A c] ⟨#[66, 65]⟩ 117 day = none := by
  unfold onF
  rw [List.find?_cons_of_neg]
  · rfl
  · unfold onB
    show ¬ ((_ == _) && ((117 == 117) && Per.hasQ (9497, 9499, 127) day)) = true
    rw [h]
    simp
theorem k8_h7 : Per.hasQ (9497, 9499, 127) 9498 = true := by decide +kernel
theorem k8_h9 : Per.hasQ (9497, 9499, 127) 9499 = true := by decide +kernel
theorem k8_h0 : Per.hasQ (9497, 9499, 127) 9500 = false := by decide +kernel
theorem k8_segs (A : Option Addr) (c : Nat) : segsL (legF s7A (k8F A c) 9498) = [k8S 13677620] := by
  rw [k8_legF A c 9498 13677620 13678120 k8_h7 k8_dep8 k8_arr8]
  rfl
theorem k8_seg1 (A : Option Addr) (c : Nat) : segF s7A [k8F A c] ⟨#[66, 65]⟩ 117 9498 ⟨#[76, 72, 82]⟩ ⟨#[74, 70, 75]⟩ = (0, k8S 13677620) := by
  refine segF_hit (k8_on A c 9498 k8_h7) ?_
  rw [k8_segs]
  exact List.find?_cons_of_pos (by decide +kernel)
theorem k8_seg2 (A : Option Addr) (c : Nat) : segF s7A [k8F A c] ⟨#[66, 65]⟩ 117 9498 ⟨#[74, 70, 75]⟩ ⟨#[76, 72, 82]⟩ = (14, sgZ) := by
  refine segF_miss (k8_on A c 9498 k8_h7) ?_
  rw [k8_segs, List.find?_cons_of_neg (by decide +kernel)]
  rfl
theorem k8_op1 (A : Option Addr) (c : Nat) : operB s7A [k8F A c] (k8S 13677620) = true := by
  unfold operB
  show ((segF s7A [k8F A c] ⟨#[66, 65]⟩ 117 9498 ⟨#[76, 72, 82]⟩ ⟨#[74, 70, 75]⟩).1 == 0 && eqSg (segF s7A [k8F A c] ⟨#[66, 65]⟩ 117 9498 ⟨#[76, 72, 82]⟩ ⟨#[74, 70, 75]⟩).2 (k8S 13677620)) = true
  rw [k8_seg1]
  decide +kernel
theorem k8_op2 (A : Option Addr) (c : Nat) : operB s7A [k8F A c] (k8S 13677621) = false := by
  unfold operB
  show ((segF s7A [k8F A c] ⟨#[66, 65]⟩ 117 9498 ⟨#[76, 72, 82]⟩ ⟨#[74, 70, 75]⟩).1 == 0 && eqSg (segF s7A [k8F A c] ⟨#[66, 65]⟩ 117 9498 ⟨#[76, 72, 82]⟩ ⟨#[74, 70, 75]⟩).2 (k8S 13677621)) = false
  rw [k8_seg1]
  decide +kernel
theorem k8_day (A : Option Addr) (c : Nat) : dayF s7A [k8F A c] 9499 = [k8D 9499 13679060 13679560] := by
  unfold dayF
  rw [List.flatMap_cons, List.flatMap_nil, List.append_nil, k8_legF A c 9499 13679060 13679560 k8_h9 k8_dep9 k8_arr9]
theorem k8_days : Per.daysQ (9499, 9505, 127) = [9499, 9500, 9501, 9502, 9503, 9504, 9505] := by decide +kernel
theorem k8_difB (A : Option Addr) (c : Nat) (d : Int) : difB [k8F A c] [] ⟨#[66, 65]⟩ 117 d = Per.hasQ (9497, 9499, 127) d := by
  unfold difB
  cases h : Per.hasQ (9497, 9499, 127) d with
  | true =>
    rw [k8_on A c d h]
    rfl
  | false =>
    rw [k8_off A c d h]
    rfl
theorem k8_dif (A : Option Addr) (c : Nat) : difL [k8F A c] [] ⟨#[66, 65]⟩ 117 (Per.daysQ (9499, 9505, 127)) = [9499] := by
  unfold difL
  rw [k8_days, show difB [k8F A c] [] ⟨#[66, 65]⟩ 117 = Per.hasQ (9497, 9499, 127) from funext (k8_difB A c)]
  decide +kernel
theorem k8_ch1 (A : Option Addr) (c : Nat) : chF s7A (k8F A c) = [] := (show chF s7A (k8F A c) = chF s7A (k8F none 0) from rfl).trans (by decide +kernel)
theorem k8_ch2 : chF s7A k8G = [(4, ⟨#[108, 101, 103, 115]⟩)] := by decide +kernel
theorem k8_tw1 (A : Option Addr) (c : Nat) : twcB [] (k8F A c) = false := (show twcB [] (k8F A c) = twcB [] (k8F none 0) from rfl).trans (by decide +kernel)
theorem k8_tw2 (A : Option Addr) (c : Nat) : twcB [k8F A c] k8G = true := (show twcB [k8F A c] k8G = twcB [k8F none 0] k8G from rfl).trans (by decide +kernel)
theorem k8_sch (A : Option Addr) (c : Nat) : schF s7A [k8F A c, k8G] 2 = [(4, ⟨#[102, 108, 105, 103, 104, 116, 32, 49, 32, 108, 101, 103, 115]⟩), (6, ⟨#[102, 108, 105, 103, 104, 116, 32, 49]⟩)] := by
  rw [schF_succ s7A [k8F A c, k8G] 1 k8G rfl, schF_succ s7A [k8F A c, k8G] 0 (k8F A c) rfl, schF_zero]
  rw [show [k8F A c, k8G].take 0 = [] from rfl, show [k8F A c, k8G].take 1 = [k8F A c] from rfl, k8_ch1, k8_ch2, k8_tw1, k8_tw2]
  decide +kernel
/-! ### places and first -/
set_option maxRecDepth 100000 in
set_option maxHeartbeats 4000000 in
theorem places8_any (w : World) : Calls Tryz.prog 81 #[] w fun e w' => ∃ N X, e = .returned (.agg X) ∧ Hid (X = #[.slice (some ⟨N, 0, none⟩) 2 2, .slice none 0 0]) ∧ AirL w' (some ⟨N, 0, none⟩) s7A ∧ Below w.heap.size w w' := by
  have hb1 := bel_alloc w (.cells #[.slice (some ⟨w.heap.size + 1, 0, none⟩) 2 2, .slice none 0 0] placesT)
  have hb2 := bel_alloc (w.alloc (.cells #[.slice (some ⟨w.heap.size + 1, 0, none⟩) 2 2, .slice none 0 0] placesT)) (.cells #[.string ⟨#[76, 72, 82]⟩, .string ⟨#[76, 79, 78]⟩, .string ⟨#[71, 66]⟩, .int .i64 0, .slice none 0 0, .string ⟨#[74, 70, 75]⟩, .string ⟨#[78, 89, 67]⟩, .string ⟨#[85, 83]⟩, .int .i64 (-300), .slice none 0 0] airT)
  have hb0 := hb1.trans (hb2.mono hb1.size)
  have hx := heap_alloc_new w (.cells #[.slice (some ⟨w.heap.size + 1, 0, none⟩) 2 2, .slice none 0 0] placesT)
  have hx2 := (hb2.block _ (lt_of_cell2 hx)).trans hx
  have hA0 := s7_airL (w.alloc (.cells #[.slice (some ⟨w.heap.size + 1, 0, none⟩) 2 2, .slice none 0 0] placesT)) _ (Below.refl _ _) (by simp) (fun j v h => h)
  rw [World.size_alloc] at hA0
  have HA0 := Lib.hid hA0
  have HB0 := Lib.hid hb0
  have HX2 := Lib.hid hx2
  clear hx hx2 hA0 hb0 hb1 hb2
  go_enter Tryz.func81, Tryz.ntmps81
  go_wp2
  have hxx := HX2.out
  have hAA := HA0.out
  have hbb := HB0.out
  clear HX2 HA0 HB0
  generalize hWW : (w.alloc (.cells #[.slice (some ⟨w.heap.size + 1, 0, none⟩) 2 2, .slice none 0 0] placesT)).alloc (.cells #[.string ⟨#[76, 72, 82]⟩, .string ⟨#[76, 79, 78]⟩, .string ⟨#[71, 66]⟩, .int .i64 0, .slice none 0 0, .string ⟨#[74, 70, 75]⟩, .string ⟨#[78, 89, 67]⟩, .string ⟨#[85, 83]⟩, .int .i64 (-300), .slice none 0 0] airT) = WW at *
  clear hWW
  have c0 := (cell_of_row WW _ 0 _ _ (0, 0) hxx).trans (show _ = some _ from rfl)
  have c1 := (cell_of_row WW _ 1 _ _ (0, 0) hxx).trans (show _ = some _ from rfl)
  refine bodyPost_ret (v := .agg #[.slice (some ⟨w.heap.size + 1, 0, none⟩) 2 2, .slice none 0 0]) ?_ rfl ⟨w.heap.size + 1, _, rfl, Lib.hid rfl, hAA, hbb⟩
  simp [results, Tryz.results81, go_sem, c0, c1]
set_option maxRecDepth 100000 in
set_option maxHeartbeats 4000000 in
theorem first8_any (w : World) : Calls Tryz.prog 82 #[] w fun e w' => ∃ M X, e = .returned (.agg X) ∧ Hid (X = #[.string ⟨#[66, 65]⟩, .int .i64 117, .int .i64 9497, .int .i64 9499, .int .i64 127, .slice (some ⟨M, 0, none⟩) 1 1]) ∧ LegL w' (.slice (some ⟨M, 0, none⟩) 1 1) [s7G 700] ∧ Below w.heap.size w w' := by
  have hb1 := bel_alloc w (.cells #[.string ⟨#[66, 65]⟩, .int .i64 117, .int .i64 9497, .int .i64 9499, .int .i64 127, .slice (some ⟨w.heap.size + 1, 0, none⟩) 1 1] fliT)
  have hb2 := bel_alloc (w.alloc (.cells #[.string ⟨#[66, 65]⟩, .int .i64 117, .int .i64 9497, .int .i64 9499, .int .i64 127, .slice (some ⟨w.heap.size + 1, 0, none⟩) 1 1] fliT)) (.cells #[.string ⟨#[76, 72, 82]⟩, .string ⟨#[74, 70, 75]⟩, .int .i64 500, .int .i64 700, .string ⟨#[55, 55, 55]⟩] legT)
  have hb0 := hb1.trans (hb2.mono hb1.size)
  have hx := heap_alloc_new w (.cells #[.string ⟨#[66, 65]⟩, .int .i64 117, .int .i64 9497, .int .i64 9499, .int .i64 127, .slice (some ⟨w.heap.size + 1, 0, none⟩) 1 1] fliT)
  have hx2 := (hb2.block _ (lt_of_cell2 hx)).trans hx
  have hG := s7_legL (w.alloc (.cells #[.string ⟨#[66, 65]⟩, .int .i64 117, .int .i64 9497, .int .i64 9499, .int .i64 127, .slice (some ⟨w.heap.size + 1, 0, none⟩) 1 1] fliT)) 700
  rw [World.size_alloc] at hG
  have HG := Lib.hid hG
  have HB0 := Lib.hid hb0
  have HX2 := Lib.hid hx2
  clear hx hx2 hG hb0 hb1 hb2
  go_enter Tryz.func82, Tryz.ntmps82
  go_wp2
  have hxx := HX2.out
  have hGG := HG.out
  have hbb := HB0.out
  clear HX2 HG HB0
  generalize hWW : (w.alloc (.cells #[.string ⟨#[66, 65]⟩, .int .i64 117, .int .i64 9497, .int .i64 9499, .int .i64 127, .slice (some ⟨w.heap.size + 1, 0, none⟩) 1 1] fliT)).alloc (.cells #[.string ⟨#[76, 72, 82]⟩, .string ⟨#[74, 70, 75]⟩, .int .i64 500, .int .i64 700, .string ⟨#[55, 55, 55]⟩] legT) = WW at *
  clear hWW
  have c0 := (cell_of_row WW _ 0 _ _ (0, 0) hxx).trans (show _ = some _ from rfl)
  have c1 := (cell_of_row WW _ 1 _ _ (0, 0) hxx).trans (show _ = some _ from rfl)
  have c2 := (cell_of_row WW _ 2 _ _ (0, 0) hxx).trans (show _ = some _ from rfl)
  have c3 := (cell_of_row WW _ 3 _ _ (0, 0) hxx).trans (show _ = some _ from rfl)
  have c4 := (cell_of_row WW _ 4 _ _ (0, 0) hxx).trans (show _ = some _ from rfl)
  have c5 := (cell_of_row WW _ 5 _ _ (0, 0) hxx).trans (show _ = some _ from rfl)
  refine bodyPost_ret (v := .agg #[.string ⟨#[66, 65]⟩, .int .i64 117, .int .i64 9497, .int .i64 9499, .int .i64 127, .slice (some ⟨w.heap.size + 1, 0, none⟩) 1 1]) ?_ rfl ⟨w.heap.size + 1, _, rfl, Lib.hid rfl, hGG, hbb⟩
  simp [results, Tryz.results82, go_sem, c0, c1, c2, c3, c4, c5]

end Go.Proofs.YtldillnjnjkkgaaGreatDoor
