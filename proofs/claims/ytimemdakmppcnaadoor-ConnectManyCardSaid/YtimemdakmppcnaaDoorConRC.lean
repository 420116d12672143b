/- Walk of the reference's Check of connecting times. -/
import Derived.Test.YtimemdakmppcnaaDoorConK
import Derived.Test.YtimemdakmppcnaaDoorPlaQC
import Derived.Test.YtimemdakmppcnaaDoorPlaQA
import Derived.Deep.LoopGhost
import Derived.BigQuiet
namespace Go.Proofs.YtimemdakmppcnaaDoor.Con
open Go.RowKit Go.Shelf
set_option linter.unusedSimpArgs false
set_option linter.unusedVariables false

def whC (b : Bool) (e : Int) : Int := if b = true then e else 0
theorem pick_wh (s : ByteArray) (b : Bool) (e : Int) (he : e ≠ 0) : pick s [whC b e] = if b = true then [(e, s)] else [] := by
  cases b
  · rfl
  · exact pick_one s e he
theorem twC_snoc (L : List Cn) (b c : Cn) : twC (L ++ [b]) c = (twC L c || ((b.a.toList == c.a.toList) && (b.i.toList == c.i.toList) && (b.o.toList == c.o.toList))) := by
  have h : decide (keyC b = keyC c) = (eqS b.a c.a && eqS b.i c.i && eqS b.o c.o) := by
    rw [Bool.eq_iff_iff, Bool.and_eq_true, Bool.and_eq_true, eqS_iff, eqS_iff, eqS_iff, decide_eq_true_iff, keyC, keyC, Prod.mk.injEq, Prod.mk.injEq, and_assoc]
  unfold twC
  rw [List.any_append, List.any_cons, List.any_nil, Bool.or_false, h]
  rfl

set_option maxRecDepth 100000 in
set_option maxHeartbeats 16000000 in
theorem rcheck_any (v0 : Value) (l : List Cn) (w : World) (hv : CnL w v0 l) (hn : l.length ≤ 100) (hok : ∀ c ∈ l, OkC c) :
    Calls Tryd.prog 12 #[v0] w fun e w' => ∃ v', e = .returned v' ∧ FOwn w.heap.size w' v' (conF l l.length) ∧ Below w.heap.size w w' := by
  obtain ⟨A, c0, rfl, hvc⟩ := id hv
  have HV := Lib.hid hv
  clear hv hvc
  have HI : Hid (FOwn w.heap.size w (.slice none 0 0) (conF l 0)) := Lib.hid (ROwn.nil (Nat.le_refl _))
  have HOK := Lib.hid hok
  clear hok
  go_enter Tryd.func12, Tryd.ntmps12
  go_wp2
  go_loopg [3, 4] l.length (fun kx v3 vi wr => ∃ (v : Value) (k : Nat), v = v3 ∧ vi = .int .i64 k ∧ k + kx = l.length ∧ Hid (FOwn w.heap.size wr v (conF l k) ∧ SW w wr))
  case atStart => exact ⟨_, 0, rfl, rfl, by omega, Lib.hid ⟨HI.out, Below.refl _ _⟩⟩
  case round =>
    obtain ⟨v, k, rfl, rfl, hkx, HH⟩ := hrel
    clear HI
    have HKX := Lib.hid hkx
    by_cases hlt : k < l.length
    · clear hkx
      obtain ⟨x, hkc⟩ : ∃ x, l[k]? = some x := ⟨_, List.getElem?_eq_getElem hlt⟩
      have HV2 : Hid (∀ W, SW w W → CnL W (.slice A l.length c0) l) := Lib.hid (fun W h => HV.out.more h)
      obtain ⟨bb, off, e1, hbl, hc⟩ := row_get (HV2.out _ HH.out.2) hkc
      cases e1
      have d0 := hc 0 _ rfl
      have d1 := hc 1 _ rfl
      have d2 := hc 2 _ rfl
      have d3 := hc 3 _ rfl
      rw [Nat.add_zero] at d0
      have i2 : (k : Int) < (l.length : Int) := by omega
      have hox := HOK.out x (List.mem_of_getElem? hkc)
      have hO := HH.out.1
      have hSr : SW w wr := HH.out.2
      have hvN : v.ownBlock ≠ some wr.heap.size := fun h => Nat.lt_irrefl _ (hO.low h).2
      have hb6 := bel_alloc wr (.cells #[.string x.a, .string x.i, .string x.o, .int .i64 x.m] cnT)
      have n0 := (cells_new wr #[.string x.a, .string x.i, .string x.o, .int .i64 x.m] cnT 0).trans (show _ = some (Value.string x.a) from rfl)
      have n1 := (cells_new wr #[.string x.a, .string x.i, .string x.o, .int .i64 x.m] cnT 1).trans (show _ = some (Value.string x.i) from rfl)
      have n2 := (cells_new wr #[.string x.a, .string x.i, .string x.o, .int .i64 x.m] cnT 2).trans (show _ = some (Value.string x.o) from rfl)
      have n3 := (cells_new wr #[.string x.a, .string x.i, .string x.o, .int .i64 x.m] cnT 3).trans (show _ = some (Value.int .i64 x.m) from rfl)
      have KDc := Lib.hid (rdec_small k (by omega) (wr.alloc (.cells #[.string x.a, .string x.i, .string x.o, .int .i64 x.m] cnT)))
      have KA := Lib.hid (fun W => rairp_any x.a W hox.a)
      have KI := Lib.hid (fun W => rcarrier_any x.i W hox.i)
      have KO := Lib.hid (fun W => rcarrier_any x.o W hox.o)
      obtain ⟨tw, htw⟩ : ∃ tw : Nat → Bool, tw = fun j => twC (l.take j) x := ⟨_, rfl⟩
      have HT : Hid (conF l (k + 1) = conF l k ++ pick (conW ++ decA k) [whC (!codC x) 5] ++ pick (conW ++ decA k) [whC (badM x.m) 2] ++ pick (conW ++ decA k) [whC (tw k) 6]) := Lib.hid (by
        rw [htw]
        rw [conF_succ l k x hkc, show conE (l.take k) x = [whC (!codC x) 5, whC (badM x.m) 2, whC (twC (l.take k) x) 6] from rfl]
        simp only [List.append_assoc, ← pick_app, List.cons_append, List.nil_append])
      have HCD : Hid (codC x = ((x.a.toList.isEmpty || capsB x.a 3) && (x.i.toList.isEmpty || carB x.i) && (x.o.toList.isEmpty || carB x.o))) := Lib.hid rfl
      have HBM : Hid (badM x.m = (decide (x.m < 0) || decide (1440 < x.m))) := Lib.hid rfl
      have HTW : Hid (∀ j (h : j < k), ∃ y, l[j]? = some y ∧ tw (j + 1) = (tw j || ((y.a.toList == x.a.toList) && (y.i.toList == x.i.toList) && (y.o.toList == x.o.toList)))) := Lib.hid (fun j h => ⟨l[j]'(by omega), List.getElem?_eq_getElem _, by
        rw [htw]
        show twC (l.take (j + 1)) x = _
        rw [List.take_add_one, List.getElem?_eq_getElem (show j < l.length by omega)]
        exact twC_snoc _ _ _⟩)
      have HTW0 : Hid (tw 0 = false) := Lib.hid (by rw [htw]; rfl)
      clear htw
      have HFL : Hid ((conF l k).length ≤ 1000) := Lib.hid (by have := conF_le l k; omega)
      have hadd : ∀ W : World, (Op.stringOp .add ⟨#[99, 111, 110, 110, 101, 99, 116, 32]⟩ (decA k)).run Tryd.prog W = .ok (.string (conW ++ decA k)) W := fun W => run_string_add_sum W _ _ (by have := decA_size k (by omega); have e : (⟨#[99, 111, 110, 110, 101, 99, 116, 32]⟩ : ByteArray).size = 8 := rfl; omega)
      generalize capsB x.a 3 = x1 at *
      generalize carB x.i = x2 at *
      generalize carB x.o = x3 at *
      generalize codC x = cb at *
      generalize badM x.m = bm at *
      generalize hBL : conF l k = BL at *
      clear hox hbl hBL HH hc hkc
      generalize hnm : conW ++ decA k = nm at *
      clear hnm
      go_upto_region 7 with (go_at_call 28; refine KDc.out.mono ?_; rintro e w6 ⟨rfl, hbd⟩)
      have hbx : Below wr.heap.size wr w6 := hb6.trans (Below.mono hbd hb6.size)
      have hO := hO.more hbx
      have HS6 : Hid (SW w w6) := Lib.hid (Below.trans hSr (hbx.mono hSr.size))
      have n0 := bel_cell hbd n0
      have n1 := bel_cell hbd n1
      have n2 := bel_cell hbd n2
      have n3 := bel_cell hbd n3
      have HO6 := Lib.hid hO
      have HSW : Hid (∀ W u, Chg w6 W v u → SW w W) := Lib.hid (fun W u h => Below.trans HS6.out (h.below HO6.out))
      have N0 : Hid (∀ W u, Chg w6 W v u → W.cell? ⟨wr.heap.size, 0, none⟩ = some (.string x.a)) := Lib.hid (fun W u h => h.cell n0 hvN)
      have N1 : Hid (∀ W u, Chg w6 W v u → W.cell? ⟨wr.heap.size, 1, none⟩ = some (.string x.i)) := Lib.hid (fun W u h => h.cell n1 hvN)
      have N2 : Hid (∀ W u, Chg w6 W v u → W.cell? ⟨wr.heap.size, 2, none⟩ = some (.string x.o)) := Lib.hid (fun W u h => h.cell n2 hvN)
      have N3 : Hid (∀ W u, Chg w6 W v u → W.cell? ⟨wr.heap.size, 3, none⟩ = some (.int .i64 x.m)) := Lib.hid (fun W u h => h.cell n3 hvN)
      clear d0 d1 d2 d3 hb6 hbd hbx hSr n3 hadd KDc hvN
      go_cut [52] from 9 to 112 (fun v52 wx => v52 = .bool (!cb) ∧ wx = w6)
      case first =>
        clear HSW N0 N1 N2 N3 HTW HTW0 HT HFL HO6 HS6 hO HKX HV2 HBM
        cases e1 : x.a.toList.isEmpty with
        | true =>
          cases e2 : x.i.toList.isEmpty with
          | true =>
            cases e3 : x.o.toList.isEmpty with
            | true =>
              go_wp2_with (first | (go_at_call 29; with_reducible refine (KA.out _).mono ?_; rintro e w' ⟨rfl, rfl⟩) | (go_at_call 30; with_reducible refine (KI.out _).mono ?_; rintro e w' ⟨rfl, rfl⟩) | (go_at_call 30; with_reducible refine (KO.out _).mono ?_; rintro e w' ⟨rfl, rfl⟩))
              go_meet
              exact ⟨by rw [HCD.out, e1, e2, e3]; first | rfl | (cases x.i.toList.isEmpty <;> cases x2 <;> cases x.o.toList.isEmpty <;> cases x3 <;> rfl) | (cases x.o.toList.isEmpty <;> cases x3 <;> rfl), rfl⟩
            | false =>
              cases x3 with
              | true =>
                go_wp2_with (first | (go_at_call 29; with_reducible refine (KA.out _).mono ?_; rintro e w' ⟨rfl, rfl⟩) | (go_at_call 30; with_reducible refine (KI.out _).mono ?_; rintro e w' ⟨rfl, rfl⟩) | (go_at_call 30; with_reducible refine (KO.out _).mono ?_; rintro e w' ⟨rfl, rfl⟩))
                go_meet
                exact ⟨by rw [HCD.out, e1, e2, e3]; first | rfl | (cases x.i.toList.isEmpty <;> cases x2 <;> cases x.o.toList.isEmpty <;> cases x3 <;> rfl) | (cases x.o.toList.isEmpty <;> cases x3 <;> rfl), rfl⟩
              | false =>
                go_wp2_with (first | (go_at_call 29; with_reducible refine (KA.out _).mono ?_; rintro e w' ⟨rfl, rfl⟩) | (go_at_call 30; with_reducible refine (KI.out _).mono ?_; rintro e w' ⟨rfl, rfl⟩) | (go_at_call 30; with_reducible refine (KO.out _).mono ?_; rintro e w' ⟨rfl, rfl⟩))
                go_meet
                exact ⟨by rw [HCD.out, e1, e2, e3]; first | rfl | (cases x.i.toList.isEmpty <;> cases x2 <;> cases x.o.toList.isEmpty <;> cases x3 <;> rfl) | (cases x.o.toList.isEmpty <;> cases x3 <;> rfl), rfl⟩
          | false =>
            cases x2 with
            | true =>
              cases e3 : x.o.toList.isEmpty with
              | true =>
                go_wp2_with (first | (go_at_call 29; with_reducible refine (KA.out _).mono ?_; rintro e w' ⟨rfl, rfl⟩) | (go_at_call 30; with_reducible refine (KI.out _).mono ?_; rintro e w' ⟨rfl, rfl⟩) | (go_at_call 30; with_reducible refine (KO.out _).mono ?_; rintro e w' ⟨rfl, rfl⟩))
                go_meet
                exact ⟨by rw [HCD.out, e1, e2, e3]; first | rfl | (cases x.i.toList.isEmpty <;> cases x2 <;> cases x.o.toList.isEmpty <;> cases x3 <;> rfl) | (cases x.o.toList.isEmpty <;> cases x3 <;> rfl), rfl⟩
              | false =>
                cases x3 with
                | true =>
                  go_wp2_with (first | (go_at_call 29; with_reducible refine (KA.out _).mono ?_; rintro e w' ⟨rfl, rfl⟩) | (go_at_call 30; with_reducible refine (KI.out _).mono ?_; rintro e w' ⟨rfl, rfl⟩) | (go_at_call 30; with_reducible refine (KO.out _).mono ?_; rintro e w' ⟨rfl, rfl⟩))
                  go_meet
                  exact ⟨by rw [HCD.out, e1, e2, e3]; first | rfl | (cases x.i.toList.isEmpty <;> cases x2 <;> cases x.o.toList.isEmpty <;> cases x3 <;> rfl) | (cases x.o.toList.isEmpty <;> cases x3 <;> rfl), rfl⟩
                | false =>
                  go_wp2_with (first | (go_at_call 29; with_reducible refine (KA.out _).mono ?_; rintro e w' ⟨rfl, rfl⟩) | (go_at_call 30; with_reducible refine (KI.out _).mono ?_; rintro e w' ⟨rfl, rfl⟩) | (go_at_call 30; with_reducible refine (KO.out _).mono ?_; rintro e w' ⟨rfl, rfl⟩))
                  go_meet
                  exact ⟨by rw [HCD.out, e1, e2, e3]; first | rfl | (cases x.i.toList.isEmpty <;> cases x2 <;> cases x.o.toList.isEmpty <;> cases x3 <;> rfl) | (cases x.o.toList.isEmpty <;> cases x3 <;> rfl), rfl⟩
            | false =>
              go_wp2_with (first | (go_at_call 29; with_reducible refine (KA.out _).mono ?_; rintro e w' ⟨rfl, rfl⟩) | (go_at_call 30; with_reducible refine (KI.out _).mono ?_; rintro e w' ⟨rfl, rfl⟩) | (go_at_call 30; with_reducible refine (KO.out _).mono ?_; rintro e w' ⟨rfl, rfl⟩))
              go_meet
              exact ⟨by rw [HCD.out, e1, e2]; first | rfl | (cases x.i.toList.isEmpty <;> cases x2 <;> cases x.o.toList.isEmpty <;> cases x3 <;> rfl) | (cases x.o.toList.isEmpty <;> cases x3 <;> rfl), rfl⟩
        | false =>
          cases x1 with
          | true =>
            cases e2 : x.i.toList.isEmpty with
            | true =>
              cases e3 : x.o.toList.isEmpty with
              | true =>
                go_wp2_with (first | (go_at_call 29; with_reducible refine (KA.out _).mono ?_; rintro e w' ⟨rfl, rfl⟩) | (go_at_call 30; with_reducible refine (KI.out _).mono ?_; rintro e w' ⟨rfl, rfl⟩) | (go_at_call 30; with_reducible refine (KO.out _).mono ?_; rintro e w' ⟨rfl, rfl⟩))
                go_meet
                exact ⟨by rw [HCD.out, e1, e2, e3]; first | rfl | (cases x.i.toList.isEmpty <;> cases x2 <;> cases x.o.toList.isEmpty <;> cases x3 <;> rfl) | (cases x.o.toList.isEmpty <;> cases x3 <;> rfl), rfl⟩
              | false =>
                cases x3 with
                | true =>
                  go_wp2_with (first | (go_at_call 29; with_reducible refine (KA.out _).mono ?_; rintro e w' ⟨rfl, rfl⟩) | (go_at_call 30; with_reducible refine (KI.out _).mono ?_; rintro e w' ⟨rfl, rfl⟩) | (go_at_call 30; with_reducible refine (KO.out _).mono ?_; rintro e w' ⟨rfl, rfl⟩))
                  go_meet
                  exact ⟨by rw [HCD.out, e1, e2, e3]; first | rfl | (cases x.i.toList.isEmpty <;> cases x2 <;> cases x.o.toList.isEmpty <;> cases x3 <;> rfl) | (cases x.o.toList.isEmpty <;> cases x3 <;> rfl), rfl⟩
                | false =>
                  go_wp2_with (first | (go_at_call 29; with_reducible refine (KA.out _).mono ?_; rintro e w' ⟨rfl, rfl⟩) | (go_at_call 30; with_reducible refine (KI.out _).mono ?_; rintro e w' ⟨rfl, rfl⟩) | (go_at_call 30; with_reducible refine (KO.out _).mono ?_; rintro e w' ⟨rfl, rfl⟩))
                  go_meet
                  exact ⟨by rw [HCD.out, e1, e2, e3]; first | rfl | (cases x.i.toList.isEmpty <;> cases x2 <;> cases x.o.toList.isEmpty <;> cases x3 <;> rfl) | (cases x.o.toList.isEmpty <;> cases x3 <;> rfl), rfl⟩
            | false =>
              cases x2 with
              | true =>
                cases e3 : x.o.toList.isEmpty with
                | true =>
                  go_wp2_with (first | (go_at_call 29; with_reducible refine (KA.out _).mono ?_; rintro e w' ⟨rfl, rfl⟩) | (go_at_call 30; with_reducible refine (KI.out _).mono ?_; rintro e w' ⟨rfl, rfl⟩) | (go_at_call 30; with_reducible refine (KO.out _).mono ?_; rintro e w' ⟨rfl, rfl⟩))
                  go_meet
                  exact ⟨by rw [HCD.out, e1, e2, e3]; first | rfl | (cases x.i.toList.isEmpty <;> cases x2 <;> cases x.o.toList.isEmpty <;> cases x3 <;> rfl) | (cases x.o.toList.isEmpty <;> cases x3 <;> rfl), rfl⟩
                | false =>
                  cases x3 with
                  | true =>
                    go_wp2_with (first | (go_at_call 29; with_reducible refine (KA.out _).mono ?_; rintro e w' ⟨rfl, rfl⟩) | (go_at_call 30; with_reducible refine (KI.out _).mono ?_; rintro e w' ⟨rfl, rfl⟩) | (go_at_call 30; with_reducible refine (KO.out _).mono ?_; rintro e w' ⟨rfl, rfl⟩))
                    go_meet
                    exact ⟨by rw [HCD.out, e1, e2, e3]; first | rfl | (cases x.i.toList.isEmpty <;> cases x2 <;> cases x.o.toList.isEmpty <;> cases x3 <;> rfl) | (cases x.o.toList.isEmpty <;> cases x3 <;> rfl), rfl⟩
                  | false =>
                    go_wp2_with (first | (go_at_call 29; with_reducible refine (KA.out _).mono ?_; rintro e w' ⟨rfl, rfl⟩) | (go_at_call 30; with_reducible refine (KI.out _).mono ?_; rintro e w' ⟨rfl, rfl⟩) | (go_at_call 30; with_reducible refine (KO.out _).mono ?_; rintro e w' ⟨rfl, rfl⟩))
                    go_meet
                    exact ⟨by rw [HCD.out, e1, e2, e3]; first | rfl | (cases x.i.toList.isEmpty <;> cases x2 <;> cases x.o.toList.isEmpty <;> cases x3 <;> rfl) | (cases x.o.toList.isEmpty <;> cases x3 <;> rfl), rfl⟩
              | false =>
                go_wp2_with (first | (go_at_call 29; with_reducible refine (KA.out _).mono ?_; rintro e w' ⟨rfl, rfl⟩) | (go_at_call 30; with_reducible refine (KI.out _).mono ?_; rintro e w' ⟨rfl, rfl⟩) | (go_at_call 30; with_reducible refine (KO.out _).mono ?_; rintro e w' ⟨rfl, rfl⟩))
                go_meet
                exact ⟨by rw [HCD.out, e1, e2]; first | rfl | (cases x.i.toList.isEmpty <;> cases x2 <;> cases x.o.toList.isEmpty <;> cases x3 <;> rfl) | (cases x.o.toList.isEmpty <;> cases x3 <;> rfl), rfl⟩
          | false =>
            go_wp2_with (first | (go_at_call 29; with_reducible refine (KA.out _).mono ?_; rintro e w' ⟨rfl, rfl⟩) | (go_at_call 30; with_reducible refine (KI.out _).mono ?_; rintro e w' ⟨rfl, rfl⟩) | (go_at_call 30; with_reducible refine (KO.out _).mono ?_; rintro e w' ⟨rfl, rfl⟩))
            go_meet
            exact ⟨by rw [HCD.out, e1]; first | rfl | (cases x.i.toList.isEmpty <;> cases x2 <;> cases x.o.toList.isEmpty <;> cases x3 <;> rfl) | (cases x.o.toList.isEmpty <;> cases x3 <;> rfl), rfl⟩
      case rest =>
        obtain ⟨rfl, hwc⟩ := hcut
        have hwc := hwc.symm
        subst hwc
        clear n0 n1 n2 HCD KA KI KO
        go_upto_if 52 with fail
        go_cut [3] from 9 to 112 (fun u wx => Hid (FOwn w.heap.size wx u (BL ++ pick nm [whC (!cb) 5]) ∧ Chg w6 wx v u))
        case first =>
          have HLn : Hid (BL.length ≤ 100000000) := Lib.hid (by have := HFL.out; omega)
          clear HSW N0 N1 N2 N3 HTW HTW0 HT HO6 HS6
          cases cb with
          | true =>
            go_wp2
            go_meet
            exact Lib.hid ⟨by rw [pick_wh _ _ _ (by omega)]; simpa using hO, Chg.refl _ _⟩
          | false =>
            go_wp2_with (at_builtin; refine wpList_rapp rtF rfl _ _ rfl hO rfl (bel_alloc _ _) _ (5, nm) _ rfl (cs := #[.int .i64 5, .string nm]) rfl (heap_alloc_new _ _) HLn.out ?_; intro v1 w1 hO1 hC1)
            go_meet
            exact Lib.hid ⟨by rw [pick_wh _ _ _ (by omega)]; exact hO1, hC1⟩
        case rest =>
          clear hO
          have hO := hcut.out.1
          have hC := hcut.out.2
          have m3 := N3.out _ _ hC
          clear hcut HO6
          obtain ⟨wa, hwa⟩ : ∃ wa, wa = wc := ⟨_, rfl⟩
          subst hwa
          go_upto_region 9 with fail
          go_cut [65] from 9 to 112 (fun v65 wx => v65 = .bool bm ∧ wx = wa)
          case first =>
            clear HSW N0 N1 N2 N3 HTW HTW0 HT HS6 hO hC
            cases h0 : decide (x.m < 0) with
            | true =>
              have h0' : x.m < 0 := of_decide_eq_true h0
              have HB : Hid (true = bm) := Lib.hid (by rw [HBM.out, h0]; rfl)
              go_wp2
              go_meet
              exact ⟨by rw [HB.out], rfl⟩
            | false =>
              have h0' : ¬ x.m < 0 := of_decide_eq_false h0
              cases h9 : decide (1440 < x.m) with
              | true =>
                have h9' : 1440 < x.m := of_decide_eq_true h9
                have HB : Hid (true = bm) := Lib.hid (by rw [HBM.out, h9, Bool.or_true])
                go_wp2
                go_meet
                exact ⟨by rw [HB.out], rfl⟩
              | false =>
                have h9' : ¬ 1440 < x.m := of_decide_eq_false h9
                have HB : Hid (false = bm) := Lib.hid (by rw [HBM.out, h0, h9]; rfl)
                go_wp2
                go_meet
                exact ⟨by rw [HB.out], rfl⟩
          case rest =>
            obtain ⟨rfl, hwc⟩ := hcut
            have hwc := hwc.symm
            subst hwc
            clear m3 HBM
            go_upto_if 65 with fail
            go_cut [3] from 9 to 112 (fun u wx => Hid (FOwn w.heap.size wx u (BL ++ pick nm [whC (!cb) 5] ++ pick nm [whC bm 2]) ∧ Chg w6 wx v u))
            case first =>
              have HLn : Hid ((BL ++ pick nm [whC (!cb) 5]).length ≤ 100000000) := Lib.hid (by have h9 := HFL.out; have h0 := pick_le nm [whC (!cb) 5]; simp only [List.length_append, List.length_cons, List.length_nil] at h0 ⊢; omega)
              clear HSW N0 N1 N2 N3 HTW HTW0 HT HS6
              cases bm with
              | false =>
                go_wp2
                go_meet
                exact Lib.hid ⟨by rw [pick_wh nm false 2 (by omega)]; simpa using hO, hC⟩
              | true =>
                go_wp2_with (at_builtin; refine wpList_rapp rtF rfl _ _ rfl hO rfl (bel_alloc _ _) _ (2, nm) _ rfl (cs := #[.int .i64 2, .string nm]) rfl (heap_alloc_new _ _) HLn.out ?_; intro v1 w1 hO1 hC1)
                go_meet
                exact Lib.hid ⟨by rw [pick_wh nm true 2 (by omega)]; exact hO1, hC.trans hC1⟩
            case rest =>
              clear hO hC
              have hO := hcut.out.1
              have hC := hcut.out.2
              have HS := Lib.hid (HSW.out _ _ hC)
              have m0 := N0.out _ _ hC
              have m1 := N1.out _ _ hC
              have m2 := N2.out _ _ hC
              clear hcut N0 N1 N2 N3
              obtain ⟨wb, hwb⟩ : ∃ wb, wb = wc := ⟨_, rfl⟩
              subst hwb
              have M0 := Lib.hid (fun W (h : SW wb W) => bel_get m0 _ h)
              have M1 := Lib.hid (fun W (h : SW wb W) => bel_get m1 _ h)
              have M2 := Lib.hid (fun W (h : SW wb W) => bel_get m2 _ h)
              clear m0 m1 m2
              have HO := Lib.hid hO
              have HC := Lib.hid hC
              clear hO hC
              have HNX : Hid (k + 1 + (l.length - (k + 1)) = l.length) := Lib.hid (by have := HKX.out; omega)
              go_upto_region 13 with fail
              go_loopg [7, 8] k (fun kx v7 vi wq => ∃ (j : Nat), j + kx = k ∧ vi = .int .i64 j ∧ v7 = .bool (tw j) ∧ SW wb wq)
              case atStart => exact ⟨0, by omega, rfl, by rw [HTW0.out], Below.refl _ _⟩
              case round =>
                obtain ⟨j, hjx, rfl, rfl, hS⟩ := hrel
                by_cases hlt2 : j < k
                · obtain ⟨y, hjc, hty⟩ := HTW.out j hlt2
                  obtain ⟨b2, o2, e2, hbl2, hc2⟩ := row_get (HV2.out _ (Below.trans HS.out (Below.mono hS HS.out.size))) hjc
                  cases e2
                  have d0 := hc2 0 _ rfl
                  have d1 := hc2 1 _ rfl
                  have d2 := hc2 2 _ rfl
                  rw [Nat.add_zero] at d0
                  have k0 := M0.out _ hS
                  have k1 := M1.out _ hS
                  have k2 := M2.out _ hS
                  have i4 : (j : Int) < (k : Int) := by omega
                  have i5 : (j : Int) < (l.length : Int) := by omega
                  have HTY := Lib.hid hty
                  have HJX := Lib.hid hjx
                  generalize tw j = tj at *
                  clear hjc hty hc2 hjx hbl2
                  clear HTW HTW0 HT HFL HO HC HSW HV2
                  cases tj with
                  | true =>
                    go_wp2
                    go_quiet (fail)
                    go_wp2
                    go_roundg (k - (j + 1))
                    case measure => have := HJX.out; omega
                    case rel => exact ⟨j + 1, by have := HJX.out; omega, by go_num, by rw [HTY.out]; rfl, below_drewN hS _⟩
                  | false =>
                  cases e1 : (y.a.toList == x.a.toList) with
                  | false =>
                    go_wp2
                    go_quiet (fail)
                    go_wp2
                    go_roundg (k - (j + 1))
                    case measure => have := HJX.out; omega
                    case rel => exact ⟨j + 1, by have := HJX.out; omega, by go_num, by rw [HTY.out, e1]; rfl, below_drewN hS _⟩
                  | true =>
                  cases e2 : (y.i.toList == x.i.toList) with
                  | false =>
                    go_wp2
                    go_quiet (fail)
                    go_wp2
                    go_roundg (k - (j + 1))
                    case measure => have := HJX.out; omega
                    case rel => exact ⟨j + 1, by have := HJX.out; omega, by go_num, by rw [HTY.out, e1, e2]; rfl, below_drewN hS _⟩
                  | true =>
                    go_wp2
                    go_quiet (fail)
                    go_wp2
                    go_roundg (k - (j + 1))
                    case measure => have := HJX.out; omega
                    case rel => exact ⟨j + 1, by have := HJX.out; omega, by go_num, by rw [HTY.out, e1, e2]; rfl, below_drewN hS _⟩
                · have hjk : j = k := by omega
                  subst hjk
                  have i4 : ¬ (j : Int) < (j : Int) := by omega
                  have hO := HO.out.more hS
                  have HLn : Hid ((BL ++ pick nm [whC (!cb) 5] ++ pick nm [whC bm 2]).length ≤ 100000000) := Lib.hid (by have h9 := HFL.out; have h0 := pick_le nm [whC (!cb) 5]; have h1 := pick_le nm [whC bm 2]; simp only [List.length_append, List.length_cons, List.length_nil] at h0 h1 ⊢; omega)
                  have HSq : Hid (SW w wr) := Lib.hid (Below.trans HS.out (Below.mono hS HS.out.size))
                  clear hS hjx hlt2 HTW HTW0 M0 M1 M2 HC
                  cases htj : tw j with
                  | false =>
                    have HY : Hid (FOwn w.heap.size wr _ (conF l (j + 1)) ∧ SW w wr) := Lib.hid ⟨by rw [HT.out, htj, pick_wh nm false 6 (by omega)]; simpa using hO, HSq.out⟩
                    go_wp2
                    go_roundg (l.length - (j + 1))
                    case measure => have := HKX.out; omega
                    case rel => exact ⟨_, j + 1, rfl, by go_num, HNX.out, HY⟩
                  | true =>
                    go_wp2_with (at_builtin; refine wpList_rapp rtF rfl _ _ rfl hO rfl (bel_alloc _ _) _ (6, nm) _ rfl (cs := #[.int .i64 6, .string nm]) rfl (heap_alloc_new _ _) HLn.out ?_; intro v1 w1 hO1 hC1)
                    have HY : Hid (FOwn w.heap.size w1 v1 (conF l (j + 1)) ∧ SW w w1) := Lib.hid ⟨by rw [HT.out, htj, pick_wh nm true 6 (by omega)]; exact hO1, Below.trans HSq.out (hC1.below hO)⟩
                    clear hO hO1 hC1
                    go_roundg (l.length - (j + 1))
                    case measure => have := HKX.out; omega
                    case rel => exact ⟨_, j + 1, rfl, by go_num, HNX.out, HY⟩
    · have HE : Hid (conF l k = conF l l.length) := Lib.hid (by rw [show k = l.length by omega])
      have HR : Hid (FOwn w.heap.size wr v (conF l l.length) ∧ Below w.heap.size w wr) := Lib.hid ⟨by rw [← HE.out]; exact HH.out.1, HH.out.2⟩
      have i2 : ¬ (k : Int) < (l.length : Int) := by omega
      go_wp2
      go_ret
      exact ⟨_, rfl, HR.out⟩

end Go.Proofs.YtimemdakmppcnaaDoor.Con
